/- The sieve's table: layStates. -/
import Derived.Test.YtceaklefdahfkabSv6
namespace Go.Proofs.Ytceaklefdahfkab
open Go.RowKit
abbrev T3 := List Nat × List Nat × List Nat
/-- One word at one depth. -/
def l1 (d : Nat) (s : T3) (wd : List Nat) (sh : Nat) : T3 :=
  if sh < d then (s.1 ++ [wd.getD (d - 1) 0], s.2.1 ++ [d], if sh < d - 1 then s.2.2 ++ [s.1.length] else s.2.2) else s
/-- The first words at one depth. -/
def lD (d : Nat) (ws : List (List Nat)) (sh : List Nat) (s : T3) : Nat → T3
  | 0 => s
  | i + 1 => l1 d (lD d ws sh s i) (ws.getD i []) (sh.getD i 0)
/-- The first depths. -/
def lS (ws : List (List Nat)) (sh : List Nat) : Nat → T3
  | 0 => ([0], [0], [1])
  | d + 1 => lD (d + 1) ws sh (lS ws sh d) ws.length
theorem lD_len (d : Nat) (ws : List (List Nat)) (sh : List Nat) (s : T3) : ∀ i, (lD d ws sh s i).1.length ≤ s.1.length + i ∧ (lD d ws sh s i).2.1.length ≤ s.2.1.length + i ∧ (lD d ws sh s i).2.2.length ≤ s.2.2.length + i
  | 0 => by simp [lD]
  | i + 1 => by
    have ih := lD_len d ws sh s i
    rw [lD, l1]
    split
    · refine ⟨by simp; omega, by simp; omega, ?_⟩
      simp only
      split
      · simp; omega
      · omega
    · omega
theorem lS_len (ws : List (List Nat)) (sh : List Nat) : ∀ d, (lS ws sh d).1.length ≤ 1 + d * ws.length ∧ (lS ws sh d).2.1.length ≤ 1 + d * ws.length ∧ (lS ws sh d).2.2.length ≤ 1 + d * ws.length
  | 0 => by simp [lS]
  | d + 1 => by
    have ih := lS_len ws sh d
    have h := lD_len (d + 1) ws sh (lS ws sh d) ws.length
    rw [lS, Nat.add_mul, Nat.one_mul]
    omega
/-- In memory, whatever the slices. -/
def Lq (g sb : Nat) (sr : Array Value) (w0 r4 r5 r6 : Value) (s : T3) (w : World) : Prop := ∃ a b f, Ly g sb sr a b f w0 r4 r5 r6 s.1 s.2.1 s.2.2 w
theorem Ly.acell {g sb : Nat} {sr : Array Value} {a b f w0 r4 r5 r6 : Value} {A D F : List Nat} {w : World} (h : Ly g sb sr a b f w0 r4 r5 r6 A D F w) (x : Obj) : (w.alloc x).cell? ⟨g, 1, none⟩ = some a ∧ (w.alloc x).cell? ⟨g, 2, none⟩ = some b ∧ (w.alloc x).cell? ⟨g, 3, none⟩ = some f := by
  have hr : (w.alloc x).heap[g]? = _ := (heap_alloc_old w x (h := h.gz)).trans h.row
  exact ⟨(cell_of_row _ g 1 _ _ _ hr).trans rfl, (cell_of_row _ g 2 _ _ _ hr).trans rfl, (cell_of_row _ g 3 _ _ _ hr).trans rfl⟩
theorem own_size1 {w : World} {b e n : Nat} {v : Value} {cs : List Value} {F : List Nat} {x : Nat} (h : w.ownsRow b e n v (F ++ [x]).length cs) : ∃ o c, v = .slice o (F.length + 1) c := by
  obtain ⟨o, c, h⟩ := own_size h
  exact ⟨o, c, by simpa using h⟩
attribute [local go_sem ↓] toApU toApF toIxS
set_option maxRecDepth 100000 in
set_option maxHeartbeats 3200000 in
theorem layStates_any (g : Nat) (l : List ByteArray) (hl : l.length ≤ 4096) (m : Nat) (hm : m ≤ 64) (hs : ∀ s ∈ l, s.size = m) (v vv : Value) (w : World) (hv : St v l w) (hvg : ∀ k, v.ownBlock = some k → k < g)
    (hrow : w.heap[g]? = some (.cells #[.int .i64 (m : Int), .slice none 0 0, .slice none 0 0, .slice none 0 0, .slice none 0 0, .slice none 0 0, vv] 100 (0, 0))) :
    Calls Try.prog 74 #[.pointer (some ⟨g, 0, none⟩), v] w fun e w' => e = .returned (.tuple #[]) ∧ (∃ sb sr, Lq g sb sr (.int .i64 (m : Int)) (.slice none 0 0) (.slice none 0 0) vv ((lS (l.map tl) (shr (l.map tl)) m).1, (lS (l.map tl) (shr (l.map tl)) m).2.1, (lS (l.map tl) (shr (l.map tl)) m).2.2 ++ [(lS (l.map tl) (shr (l.map tl)) m).1.length]) w') ∧ Below g w w' := by
  have gz : g < w.heap.size := (Array.getElem?_eq_some_iff.1 hrow).1
  have CS : Hid (Calls Try.prog 90 #[v] w fun e w' => e = .returned (.slice (some ⟨w.heap.size, 0, none⟩) l.length l.length) ∧ w'.heap[w.heap.size]? = some (.cells (ik .i64 (shr (l.map tl))) 3 (0, 0)) ∧ Below w.heap.size w w') := shared_any l (by omega) m hm hs v w hv
  obtain ⟨o, c, rfl, _, _, ho⟩ := hv.form
  have HO : Hid (0 < l.length → ∃ b off, o = some ⟨b, off, none⟩ ∧ b < g ∧ ∀ (j : Nat) s, l[j]? = some s → w.cell? ⟨b, off + j, none⟩ = some (.string s)) := fun h0 => by
    obtain ⟨b, off, h1, h2, h3⟩ := ho h0
    exact ⟨b, off, h1, hvg b (by rw [h1]; rfl), h3⟩
  have HS : Hid (∀ s ∈ l, s.size = m) := hs
  have HR : Hid _ := hrow
  obtain ⟨sb, hsb⟩ : ∃ sb, sb = w.heap.size := ⟨_, rfl⟩
  rw [← hsb] at CS gz
  have HSB : Hid (sb = w.heap.size) := hsb
  clear hv ho hvg hs hrow hsb
  go_enter Try.func74, Try.ntmps74
  go_wp2_with fail
  refine Calls.mono CS.out ?_
  rintro e W ⟨rfl, rS, bS⟩
  have hsb := HSB.out
  rw [hsb] at gz
  have rG : W.heap[g]? = some (.cells #[.int .i64 (m : Int), .slice none 0 0, .slice none 0 0, .slice none 0 0, .slice none 0 0, .slice none 0 0, vv] 100 (0, 0)) := (bS.block g (by omega)).trans HR.out
  obtain ⟨Wa, hWa⟩ : ∃ Wa, W.alloc (.cells #[.int .u8 0] 5) = Wa := ⟨_, rfl⟩
  obtain ⟨Wb, hWb⟩ : ∃ Wb, Wa.alloc (.cells #[.int .u8 0] 5) = Wb := ⟨_, rfl⟩
  obtain ⟨Wc, hWc⟩ : ∃ Wc, Wb.alloc (.cells #[.int .i32 1] 21) = Wc := ⟨_, rfl⟩
  have gW : g < W.heap.size := (Array.getElem?_eq_some_iff.1 rG).1
  have sW : sb < W.heap.size := (Array.getElem?_eq_some_iff.1 rS).1
  have za : Wa.heap.size = W.heap.size + 1 := by rw [← hWa]; simp
  have zb : Wb.heap.size = W.heap.size + 2 := by rw [← hWb]; simp [za]
  have zc : Wc.heap.size = W.heap.size + 3 := by rw [← hWc]; simp [zb]
  have oc : ∀ j, j < W.heap.size → Wc.heap[j]? = W.heap[j]? := fun j hj => by rw [← hWc, heap_alloc_old _ _ (h := by omega), ← hWb, heap_alloc_old _ _ (h := by omega), ← hWa, heap_alloc_old _ _ (h := hj)]
  have rc : Wc.heap[g]? = _ := (oc g gW).trans rG
  have x1 : Wc.cell? ⟨g, 1, none⟩ = some (.slice none 0 0) := (cell_of_row Wc g 1 _ _ _ rc).trans rfl
  have y1 : Wc.frozen? ⟨g, 1, none⟩ = false := frozen_of_row Wc _ _ _ _ rc
  obtain ⟨W1, hW1⟩ : ∃ W1, Wc.setCell ⟨g, 1, none⟩ (.slice (some ⟨W.heap.size, 0, none⟩) 1 1) = W1 := ⟨_, rfl⟩
  have r1 : W1.heap[g]? = some (.cells #[.int .i64 (m : Int), .slice (some ⟨W.heap.size, 0, none⟩) 1 1, .slice none 0 0, .slice none 0 0, .slice none 0 0, .slice none 0 0, vv] 100 (0, 0)) := by rw [← hW1]; exact (heap_setCell_same _ _ _ _ _ _ rc).trans rfl
  have x2 : W1.cell? ⟨g, 2, none⟩ = some (.slice none 0 0) := (cell_of_row W1 g 2 _ _ _ r1).trans rfl
  have y2 : W1.frozen? ⟨g, 2, none⟩ = false := frozen_of_row W1 _ _ _ _ r1
  obtain ⟨W2, hW2⟩ : ∃ W2, W1.setCell ⟨g, 2, none⟩ (.slice (some ⟨Wa.heap.size, 0, none⟩) 1 1) = W2 := ⟨_, rfl⟩
  have r2 : W2.heap[g]? = some (.cells #[.int .i64 (m : Int), .slice (some ⟨W.heap.size, 0, none⟩) 1 1, .slice (some ⟨Wa.heap.size, 0, none⟩) 1 1, .slice none 0 0, .slice none 0 0, .slice none 0 0, vv] 100 (0, 0)) := by rw [← hW2]; exact (heap_setCell_same _ _ _ _ _ _ r1).trans rfl
  have x3 : W2.cell? ⟨g, 3, none⟩ = some (.slice none 0 0) := (cell_of_row W2 g 3 _ _ _ r2).trans rfl
  have y3 : W2.frozen? ⟨g, 3, none⟩ = false := frozen_of_row W2 _ _ _ _ r2
  obtain ⟨W3, hW3⟩ : ∃ W3, W2.setCell ⟨g, 3, none⟩ (.slice (some ⟨Wb.heap.size, 0, none⟩) 1 1) = W3 := ⟨_, rfl⟩
  have r3 : W3.heap[g]? = some (.cells #[.int .i64 (m : Int), .slice (some ⟨W.heap.size, 0, none⟩) 1 1, .slice (some ⟨Wa.heap.size, 0, none⟩) 1 1, .slice (some ⟨Wb.heap.size, 0, none⟩) 1 1, .slice none 0 0, .slice none 0 0, vv] 100 (0, 0)) := by rw [← hW3]; exact (heap_setCell_same _ _ _ _ _ _ r2).trans rfl
  have o3 : ∀ j, j ≠ g → W3.heap[j]? = Wc.heap[j]? := fun j hj => by rw [← hW3, heap_setCell_other _ _ _ _ hj, ← hW2, heap_setCell_other _ _ _ _ hj, ← hW1, heap_setCell_other _ _ _ _ hj]
  have z3 : W3.heap.size = W.heap.size + 3 := by rw [← hW3, ← hW2, ← hW1]; simp [World.setCell, zc]
  have LQ0 : Hid (Lq g sb (ik .i64 (shr (l.map tl))) (.int .i64 (m : Int)) (.slice none 0 0) (.slice none 0 0) vv (lS (l.map tl) (shr (l.map tl)) 0) W3) := by
    refine ⟨_, _, _, r3, ⟨rfl, .inr ⟨W.heap.size, 1, #[.int .u8 0], rfl, by omega, ?_, Nat.le_refl _, by unfold maxLen; omega, rfl, rfl⟩⟩, ⟨rfl, .inr ⟨Wa.heap.size, 1, #[.int .u8 0], rfl, by omega, ?_, Nat.le_refl _, by unfold maxLen; omega, rfl, rfl⟩⟩, ⟨rfl, .inr ⟨Wb.heap.size, 1, #[.int .i32 1], rfl, by omega, ?_, Nat.le_refl _, by unfold maxLen; omega, rfl, rfl⟩⟩, ?_, ?_, ?_, ?_, by omega, ?_, ?_, ?_⟩
    · rw [o3 _ (by omega), ← hWc, heap_alloc_old _ _ (h := by omega), ← hWb, heap_alloc_old _ _ (h := by omega), ← hWa]; exact heap_alloc_new _ _
    · rw [o3 _ (by omega), ← hWc, heap_alloc_old _ _ (h := by omega), ← hWb]; exact heap_alloc_new _ _
    · rw [o3 _ (by omega), ← hWc]; exact heap_alloc_new _ _
    · intro k h1 h2; have e1 : W.heap.size = k := Option.some.inj h1; have e2 : Wa.heap.size = k := Option.some.inj h2; omega
    · intro k h1 h2; have e1 : W.heap.size = k := Option.some.inj h1; have e2 : Wb.heap.size = k := Option.some.inj h2; omega
    · intro k h1 h2; have e1 : Wa.heap.size = k := Option.some.inj h1; have e2 : Wb.heap.size = k := Option.some.inj h2; omega
    · rw [o3 _ (by omega), oc sb sW]; exact rS
    · intro h1; have e1 : W.heap.size = sb := Option.some.inj h1; omega
    · intro h1; have e1 : Wa.heap.size = sb := Option.some.inj h1; omega
    · intro h1; have e1 : Wb.heap.size = sb := Option.some.inj h1; omega
  have HB0 : Hid (Below g w W3) := by
    refine (bS.mono (by omega)).trans ⟨?_, ?_, ?_, by omega, fun j hj => (o3 j (by omega)).trans (oc j (by omega))⟩
    · rw [← hW3]; show W2.os = _; rw [← hW2]; show W1.os = _; rw [← hW1]; show Wc.os = _; rw [← hWc]; show Wb.os = _; rw [← hWb]; show Wa.os = _; rw [← hWa]; rfl
    · rw [← hW3]; show W2.tape = _; rw [← hW2]; show W1.tape = _; rw [← hW1]; show Wc.tape = _; rw [← hWc]; show Wb.tape = _; rw [← hWb]; show Wa.tape = _; rw [← hWa]; rfl
    · rw [← hW3]; show W2.output = _; rw [← hW2]; show W1.output = _; rw [← hW1]; show Wc.output = _; rw [← hWc]; show Wb.output = _; rw [← hWb]; show Wa.output = _; rw [← hWa]; rfl
  clear rG rc r1 r2 r3 o3 oc rS bS z3 za zb zc gW sW hsb gz
  go_wp2_with fail
  clear hWa hWb hWc hW1 hW2 hW3 x1 x2 x3 y1 y2 y3
  clear CS HR
  go_loopw [5] (fun dv wr => ∃ e d : Nat, dv = .int .i64 (d : Int) ∧ Hid (d = e + 1) ∧ e ≤ m ∧ Hid (Lq g sb (ik .i64 (shr (l.map tl))) (.int .i64 (m : Int)) (.slice none 0 0) (.slice none 0 0) vv (lS (l.map tl) (shr (l.map tl)) e) wr) ∧ Hid (Below g w wr)) (fun dv _ => m + 1 - (intOf dv).toNat)
  case atStart => exact ⟨0, 1, rfl, rfl, by omega, LQ0, HB0⟩
  case round =>
    clear LQ0 HB0
    obtain ⟨e, d, rfl, HD, he, HQ, HB⟩ := hrel
    have c0 : wr.cell? ⟨g, 0, none⟩ = some (.int .i64 (m : Int)) := by
      obtain ⟨_, _, _, h⟩ := HQ.out
      exact h.cell.1
    by_cases hlt : e < m
    · have hd1 : (d : Int) ≤ (m : Int) := by have := HD.out; omega
      have hd2 : d ≤ 64 := by have := HD.out; omega
      have ed : IntKind.i64.wrap ((d : Int) - 1) = (e : Int) := by have := HD.out; rw [wi _ (by unfold I64; omega)]; omega
      have Q0 : Hid (Lq g sb (ik .i64 (shr (l.map tl))) (.int .i64 (m : Int)) (.slice none 0 0) (.slice none 0 0) vv (lD d (l.map tl) (shr (l.map tl)) (lS (l.map tl) (shr (l.map tl)) e) 0) wr) := HQ.out
      have HSL := lS_len (l.map tl) (shr (l.map tl)) e
      rw [List.length_map] at HSL
      have HSE : Hid ((lS (l.map tl) (shr (l.map tl)) e).1.length ≤ 1 + 64 * 4096 ∧ (lS (l.map tl) (shr (l.map tl)) e).2.1.length ≤ 1 + 64 * 4096 ∧ (lS (l.map tl) (shr (l.map tl)) e).2.2.length ≤ 1 + 64 * 4096) := by
        have : e * l.length ≤ 64 * 4096 := Nat.mul_le_mul (by omega) hl
        show _ ∧ _ ∧ _
        omega
      clear HQ HSL
      go_wp2_with fail
      clear c0
      go_loopw [32] (fun iv wr => ∃ i : Nat, iv = .int .i64 (i : Int) ∧ i ≤ l.length ∧ Hid (Lq g sb (ik .i64 (shr (l.map tl))) (.int .i64 (m : Int)) (.slice none 0 0) (.slice none 0 0) vv (lD d (l.map tl) (shr (l.map tl)) (lS (l.map tl) (shr (l.map tl)) e) i) wr) ∧ Hid (Below g w wr)) (fun iv _ => l.length - (intOf iv).toNat)
      case atStart => exact ⟨0, rfl, by omega, Q0, HB⟩
      case round =>
        clear Q0 HB
        obtain ⟨i, rfl, hi, HQ, HB⟩ := hrel
        by_cases hil : i < l.length
        · have hi0 : (0 : Int) ≤ (i : Int) := by omega
          have hi1 : (i : Int) < (l.length : Int) := by omega
          obtain ⟨a, ha⟩ : ∃ a, l[i]? = some a := ⟨_, List.getElem?_eq_getElem hil⟩
          have ha1 := HS.out a (List.mem_of_getElem? ha)
          obtain ⟨bo, off, rfl, hbz, hc⟩ := HO.out (by omega)
          have ca : wr.cell? ⟨bo, off + i, none⟩ = some (.string a) := (World.cell?_of_block (w := w) (HB.out.block bo hbz)).trans (hc i a ha)
          have HL1 : Hid (lD d (l.map tl) (shr (l.map tl)) (lS (l.map tl) (shr (l.map tl)) e) (i + 1) = l1 d (lD d (l.map tl) (shr (l.map tl)) (lS (l.map tl) (shr (l.map tl)) e) i) (tl a) ((shr (l.map tl)).getD i 0)) := by
            show _ = _
            rw [lD]
            congr 1
            simp [List.getD, ha]
          have HLN := lD_len d (l.map tl) (shr (l.map tl)) (lS (l.map tl) (shr (l.map tl)) e) i
          have hsl : i < (shr (l.map tl)).length := by rw [shr_len, List.length_map]; exact hil
          have hx := ik_get .i64 (shr (l.map tl)) i hsl
          obtain ⟨va, vb, vf, LY⟩ := HQ.out
          have hA : (lD d (l.map tl) (shr (l.map tl)) (lS (l.map tl) (shr (l.map tl)) e) i).1.length ≤ 300000 := by have := HSE.out; omega
          have hDl : (lD d (l.map tl) (shr (l.map tl)) (lS (l.map tl) (shr (l.map tl)) e) i).2.1.length ≤ 300000 := by have := HSE.out; omega
          have hF : (lD d (l.map tl) (shr (l.map tl)) (lS (l.map tl) (shr (l.map tl)) e) i).2.2.length ≤ 300000 := by have := HSE.out; omega
          clear HLN hc ha HQ hsl
          revert LY HL1 hA hDl hF hx
          generalize (shr (l.map tl)).getD i 0 = x, lD d (l.map tl) (shr (l.map tl)) (lS (l.map tl) (shr (l.map tl)) e) i = S3
          intro HL1 hx LY hA hDl hF
          obtain ⟨A, Dp, F⟩ := S3
          replace LY : Ly g sb (ik .i64 (shr (l.map tl))) va vb vf (.int .i64 (m : Int)) (.slice none 0 0) (.slice none 0 0) vv A Dp F wr := LY
          replace hA : A.length ≤ 300000 := hA
          replace hDl : Dp.length ≤ 300000 := hDl
          replace hF : F.length ≤ 300000 := hF
          have cx : wr.cell? ⟨sb, i, none⟩ = some (.int .i64 (x : Int)) := (cell_of_row wr sb i _ _ _ LY.sh).trans hx
          obtain ⟨oa, cla, rfl⟩ := own_size LY.oa
          obtain ⟨ob, clb, rfl⟩ := own_size LY.ob
          obtain ⟨of, clf, rfl⟩ := own_size LY.of
          have hAi : (A.length : Int) < 2147483648 := by omega
          have hdi : (d : Int) < 256 := by omega
          have hei : (0 : Int) ≤ (e : Int) := by omega
          have hem : e < a.size := by omega
          have iy := run_ixS a e hem
          have HL1' : Hid (x < d → lD d (l.map tl) (shr (l.map tl)) (lS (l.map tl) (shr (l.map tl)) e) (i + 1) = (A ++ [(tl a).getD e 0], Dp ++ [d], if x < e then F ++ [A.length] else F)) := fun hh => by
            have := HD.out
            rw [HL1.out, l1, if_pos hh, show d - 1 = e by omega]
          have HL1n : Hid (¬ x < d → lD d (l.map tl) (shr (l.map tl)) (lS (l.map tl) (shr (l.map tl)) e) (i + 1) = (A, Dp, F)) := fun hh => by rw [HL1.out, l1, if_neg hh]
          revert iy HL1'
          generalize (tl a).getD e 0 = y
          intro iy HL1'
          have hed : e < d := by have := HD.out; omega
          have HA1 : Hid (a.size = m) := ha1
          clear HL1 ha1
          by_cases hxd : x < d
          · by_cases hxe : x < e
            · have hxd' : (x : Int) < (d : Int) := by omega
              have hxe' : (x : Int) < (e : Int) := by omega
              obtain ⟨D0, hD0⟩ : ∃ D0, wr.drew = D0 := ⟨_, rfl⟩
              have L0 := LY.drew (w' := D0) (by rw [← hD0]; rfl)
              obtain ⟨vf1, P1, rF, kF, zF, L1, b1⟩ := L0.addF A.length (by omega)
              obtain ⟨W1, hW1⟩ : ∃ W1, P1.setCell ⟨g, 3, none⟩ vf1 = W1 := ⟨_, rfl⟩
              rw [hW1] at L1 b1
              have B1 : Hid (Below g w W1) := HB.out.trans ((Below.same (Below.refl g wr) (by rw [← hD0]; rfl) (by rw [← hD0]; rfl) (by rw [← hD0]; rfl) (by rw [← hD0]; rfl)).trans (b1 g (Nat.le_refl _)))
              obtain ⟨of1, cf1, rfl⟩ := own_size1 L1.of
              have qa := L0.cell.2.1
              have qf := L0.cell.2.2.2
              have qa' := (L0.acell (.cells #[.int .i32 (A.length : Int)] 21)).1
              have qf' := (L0.acell (.cells #[.int .i32 (A.length : Int)] 21)).2.2
              have s1 : W1.cell? ⟨sb, i, none⟩ = some (.int .i64 (x : Int)) := (cell_of_row W1 sb i _ _ _ L1.sh).trans hx
              obtain ⟨D1, hD1⟩ : ∃ D1, W1.drew = D1 := ⟨_, rfl⟩
              have L2 := L1.drew (w' := D1) (by rw [← hD1]; rfl)
              obtain ⟨va2, P2, rA, kA, zA, L3, b3⟩ := L2.addA y (by omega)
              obtain ⟨W2, hW2⟩ : ∃ W2, P2.setCell ⟨g, 1, none⟩ va2 = W2 := ⟨_, rfl⟩
              rw [hW2] at L3 b3
              have B2 : Hid (Below g w W2) := B1.out.trans ((Below.same (Below.refl g W1) (by rw [← hD1]; rfl) (by rw [← hD1]; rfl) (by rw [← hD1]; rfl) (by rw [← hD1]; rfl)).trans (b3 g (Nat.le_refl _)))
              obtain ⟨oa2, ca2, rfl⟩ := own_size1 L3.oa
              have pa := L2.cell.2.1
              have pa' := (L2.acell (.cells #[.int .u8 (y : Int)] 5)).1
              obtain ⟨vb3, P3, rB, kB, zB, L4, b4⟩ := L3.addD d (by omega)
              obtain ⟨W3', hW3'⟩ : ∃ W3, P3.setCell ⟨g, 2, none⟩ vb3 = W3 := ⟨_, rfl⟩
              rw [hW3'] at L4 b4
              have B3 : Hid (Below g w W3') := B2.out.trans (b4 g (Nat.le_refl _))
              obtain ⟨ob3, cb3, rfl⟩ := own_size1 L4.ob
              have pb := L3.cell.2.2.1
              have pb' := (L3.acell (.cells #[.int .u8 (d : Int)] 5)).2.1
              have Q1 : Hid (Lq g sb (ik .i64 (shr (l.map tl))) (.int .i64 (m : Int)) (.slice none 0 0) (.slice none 0 0) vv (lD d (l.map tl) (shr (l.map tl)) (lS (l.map tl) (shr (l.map tl)) e) (i + 1)) W3') := by
                show Lq _ _ _ _ _ _ _ _ _
                rw [HL1'.out hxd, if_pos hxe]
                exact ⟨_, _, _, L4⟩
              clear LY L0 L1 L2 L3 L4 b1 b3 b4 hxd hxe HL1' HL1n B1 B2 hx hed hem hA hDl hF
              go_wp2_with fail
              go_region
              clear hAi qa qf qa' qf' rF kF zF hl hm hd2
              go_wp2_with fail
              go_region
              clear pa pa' rA kA zA
              go_wp2
              exact ⟨⟨i + 1, by rfl, by omega, Q1, B3⟩, by simp only [intOf]; omega⟩
            · have hxd' : (x : Int) < (d : Int) := by omega
              have hxe' : ¬ ((x : Int) < (e : Int)) := by omega
              obtain ⟨D1, hD1⟩ : ∃ D1, wr.drew = D1 := ⟨_, rfl⟩
              have L2 := LY.drew (w' := D1) (by rw [← hD1]; rfl)
              obtain ⟨va2, P2, rA, kA, zA, L3, b3⟩ := L2.addA y (by omega)
              obtain ⟨W2, hW2⟩ : ∃ W2, P2.setCell ⟨g, 1, none⟩ va2 = W2 := ⟨_, rfl⟩
              rw [hW2] at L3 b3
              have B2 : Hid (Below g w W2) := HB.out.trans ((Below.same (Below.refl g wr) (by rw [← hD1]; rfl) (by rw [← hD1]; rfl) (by rw [← hD1]; rfl) (by rw [← hD1]; rfl)).trans (b3 g (Nat.le_refl _)))
              obtain ⟨oa2, ca2, rfl⟩ := own_size1 L3.oa
              have pa := L2.cell.2.1
              have pa' := (L2.acell (.cells #[.int .u8 (y : Int)] 5)).1
              obtain ⟨vb3, P3, rB, kB, zB, L4, b4⟩ := L3.addD d (by omega)
              obtain ⟨W3', hW3'⟩ : ∃ W3, P3.setCell ⟨g, 2, none⟩ vb3 = W3 := ⟨_, rfl⟩
              rw [hW3'] at L4 b4
              have B3 : Hid (Below g w W3') := B2.out.trans (b4 g (Nat.le_refl _))
              obtain ⟨ob3, cb3, rfl⟩ := own_size1 L4.ob
              have pb := L3.cell.2.2.1
              have pb' := (L3.acell (.cells #[.int .u8 (d : Int)] 5)).2.1
              have Q1 : Hid (Lq g sb (ik .i64 (shr (l.map tl))) (.int .i64 (m : Int)) (.slice none 0 0) (.slice none 0 0) vv (lD d (l.map tl) (shr (l.map tl)) (lS (l.map tl) (shr (l.map tl)) e) (i + 1)) W3') := by
                show Lq _ _ _ _ _ _ _ _ _
                rw [HL1'.out hxd, if_neg hxe]
                exact ⟨_, _, _, L4⟩
              clear LY L2 L3 L4 b3 b4 hxd hxe HL1' HL1n B2 hx hed hem hA hDl hF
              clear hAi hl hm hd2
              go_wp2_with fail
              go_region
              clear pa pa' rA kA zA
              go_wp2
              exact ⟨⟨i + 1, by rfl, by omega, Q1, B3⟩, by simp only [intOf]; omega⟩
          · have hxd' : ¬ ((x : Int) < (d : Int)) := by omega
            have hxe' : ¬ ((x : Int) < (e : Int)) := by omega
            have Q1 : Hid (Lq g sb (ik .i64 (shr (l.map tl))) (.int .i64 (m : Int)) (.slice none 0 0) (.slice none 0 0) vv (lD d (l.map tl) (shr (l.map tl)) (lS (l.map tl) (shr (l.map tl)) e) (i + 1)) wr) := by
              show Lq _ _ _ _ _ _ _ _ _
              rw [HL1n.out hxd]
              exact ⟨_, _, _, LY⟩
            clear LY hxd HL1' HL1n hx hed hem hA hDl hF
            go_wp2
            exact ⟨⟨i + 1, by rfl, by omega, Q1, HB⟩, by simp only [intOf]; omega⟩
        · have hi1 : ¬ ((i : Int) < (l.length : Int)) := by omega
          have hie : i = l.length := by omega
          have Q1 : Hid (Lq g sb (ik .i64 (shr (l.map tl))) (.int .i64 (m : Int)) (.slice none 0 0) (.slice none 0 0) vv (lS (l.map tl) (shr (l.map tl)) (e + 1)) wr) := by
            have := HQ.out
            rw [hie, HD.out] at this
            show Lq _ _ _ _ _ _ _ _ _
            rw [lS, List.length_map]
            exact this
          clear hie HQ
          go_wp2
          exact ⟨⟨e + 1, d + 1, by rfl, by show _ = _; rw [HD.out], by omega, Q1, HB⟩, by simp only [intOf]; have := HD.out; omega⟩
    · have hd1 : ¬ ((d : Int) ≤ (m : Int)) := by have := HD.out; omega
      have hem : e = m := by omega
      subst hem
      have HSL := lS_len (l.map tl) (shr (l.map tl)) e
      rw [List.length_map] at HSL
      have hml : e * l.length ≤ 64 * 4096 := Nat.mul_le_mul (by omega) hl
      obtain ⟨va, vb, vf, LY⟩ := HQ.out
      have hA : (lS (l.map tl) (shr (l.map tl)) e).1.length ≤ 300000 := by omega
      have hF : (lS (l.map tl) (shr (l.map tl)) e).2.2.length ≤ 300000 := by omega
      clear HSL hml HQ
      revert LY hA hF
      generalize HS3 : lS (l.map tl) (shr (l.map tl)) e = S3
      intro LY hA hF
      have HS4 : Hid (lS (l.map tl) (shr (l.map tl)) e = S3) := HS3
      clear HS3
      obtain ⟨A, Dp, F⟩ := S3
      replace LY : Ly g sb (ik .i64 (shr (l.map tl))) va vb vf (.int .i64 (e : Int)) (.slice none 0 0) (.slice none 0 0) vv A Dp F wr := LY
      replace hA : A.length ≤ 300000 := hA
      replace hF : F.length ≤ 300000 := hF
      obtain ⟨oa, cla, rfl⟩ := own_size LY.oa
      obtain ⟨of, clf, rfl⟩ := own_size LY.of
      have hAi : (A.length : Int) < 2147483648 := by omega
      obtain ⟨D0, hD0⟩ : ∃ D0, wr.drew = D0 := ⟨_, rfl⟩
      have L0 := LY.drew (w' := D0) (by rw [← hD0]; rfl)
      obtain ⟨vf1, P1, rF, kF, zF, L1, b1⟩ := L0.addF A.length (by omega)
      obtain ⟨W1, hW1⟩ : ∃ W1, P1.setCell ⟨g, 3, none⟩ vf1 = W1 := ⟨_, rfl⟩
      rw [hW1] at L1 b1
      have B1 : Hid (Below g w W1) := HB.out.trans ((Below.same (Below.refl g wr) (by rw [← hD0]; rfl) (by rw [← hD0]; rfl) (by rw [← hD0]; rfl) (by rw [← hD0]; rfl)).trans (b1 g (Nat.le_refl _)))
      obtain ⟨of1, cf1, rfl⟩ := own_size1 L1.of
      have qa := L0.cell.2.1
      have qf := L0.cell.2.2.2
      have qa' := (L0.acell (.cells #[.int .i32 (A.length : Int)] 21)).1
      have qf' := (L0.acell (.cells #[.int .i32 (A.length : Int)] 21)).2.2
      have Q1 : Hid (∃ sb sr, Lq g sb sr (.int .i64 (e : Int)) (.slice none 0 0) (.slice none 0 0) vv ((lS (l.map tl) (shr (l.map tl)) e).1, (lS (l.map tl) (shr (l.map tl)) e).2.1, (lS (l.map tl) (shr (l.map tl)) e).2.2 ++ [(lS (l.map tl) (shr (l.map tl)) e).1.length]) W1) := by
        show ∃ sb sr, _
        rw [HS4.out]
        exact ⟨sb, _, _, _, _, L1⟩
      clear LY L0 L1 b1 hA hF HB HSB HS
      go_wp2_with fail
      go_region
      clear hAi qa qf qa' qf' rF kF zF hl hm
      go_end0
      exact ⟨rfl, Q1.out, B1.out⟩
end Go.Proofs.Ytceaklefdahfkab
