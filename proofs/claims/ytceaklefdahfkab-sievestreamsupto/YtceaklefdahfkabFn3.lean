/- SieveFinds: planted. -/
import Derived.Test.YtceaklefdahfkabFn2
import Derived.BigRegion
namespace Go.Proofs.Ytceaklefdahfkab
open Go.RowKit
/-- Bytes with patterns laid into them. -/
def plt (d : List Nat) (ws : List ByteArray) (at' : List Nat) : Nat → List Nat
  | 0 => d
  | k + 1 => ovr (plt d ws at' k) ((tl (txt ws (k % ws.length))).take (min (txt ws (k % ws.length)).size (d.length - at'.getD k 0 % d.length))) (at'.getD k 0 % d.length)
theorem plt_len (d : List Nat) (ws : List ByteArray) (at' : List Nat) (h0 : 0 < d.length) : ∀ k, (plt d ws at' k).length = d.length
  | 0 => rfl
  | k + 1 => by
    have ih := plt_len d ws at' h0 k
    have := Nat.mod_lt (at'.getD k 0) h0
    rw [plt, ovr_len, ih]
    rw [List.length_take, tl_len, ih]; omega
theorem plt_byt (d : List Nat) (hd : Byt d) (ws : List ByteArray) (at' : List Nat) : ∀ k, Byt (plt d ws at' k)
  | 0 => hd
  | k + 1 => ovr_byt (plt_byt d hd ws at' k) (fun y hy => tl_byt _ y (List.mem_of_mem_take hy)) _
def pltD (d : List Nat) (ws : List ByteArray) (at' : List Nat) : List Nat := if d.length = 0 then d else plt d ws at' at'.length
theorem pltD_len (d : List Nat) (ws : List ByteArray) (at' : List Nat) : (pltD d ws at').length = d.length := by
  unfold pltD
  by_cases h : d.length = 0
  · rw [if_pos h]
  · rw [if_neg h]; exact plt_len d ws at' (by omega) _
theorem pltD_byt (d : List Nat) (hd : Byt d) (ws : List ByteArray) (at' : List Nat) : Byt (pltD d ws at') := by
  unfold pltD
  by_cases h : d.length = 0
  · rw [if_pos h]; exact hd
  · rw [if_neg h]; exact plt_byt d hd ws at' _
theorem run_cutL (g n p : Nat) (h : p < n) (w : World) : (slB (.slice (some ⟨g, 0, none⟩) n n) (some (.int .i64 (p : Int))) none none).run Try.prog w = .ok (.slice (some ⟨g, p, none⟩) (n - p) (n - p)) w := by
  have := run_slice_l (P := Try.prog) w 23 (some ⟨g, 0, none⟩) n n u27 .i64 (p : Int) (by omega) (by omega)
  unfold slB
  rw [this, elem27, run_size1 w size5]
  simp only [Result.andThen, sliced, Int.toNat_natCast, Option.map_some, Nat.mul_one]
  rw [if_neg (by omega), Go.WideShapes.add_plain, Nat.zero_add]
attribute [local go_sem ↓] toCpS toSlB
set_option maxRecDepth 100000 in
set_option maxHeartbeats 1600000 in
theorem planted_any (d : List Nat) (hd : d.length ≤ 1073741824) (ws : List ByteArray) (hw0 : 0 < ws.length) (hwl : ws.length ≤ 1073741824) (at' : List Nat) (hal : at'.length ≤ 1073741824) (ha : ∀ j, at'.getD j 0 < 65536) (v u a : Value) (w : World) (hv : Si .u8 v d w) (hu : St u ws w) (hA : Si .u16 a at' w) :
    Calls Try.prog 9 #[v, u, a] w fun e w' => ∃ g, e = .returned (.slice (some ⟨g, 0, none⟩) d.length d.length) ∧ w.heap.size ≤ g ∧ w'.heap[g]? = some (.cells (ik .u8 (pltD d ws at')) 5 (0, 0)) ∧ Below w.heap.size w w' := by
  have CC : Hid _ := copied_any d hd v w hv
  obtain ⟨ou, cu, rfl, _, _, hf⟩ := hu.form
  obtain ⟨oa, ca, rfl, _, _, hfa⟩ := hA.form
  obtain ⟨bu, offu, rfl, hbu, hcu⟩ := hf hw0
  have HU : Hid (∀ j, j < ws.length → w.cell? ⟨bu, offu + j, none⟩ = some (.string (txt ws j))) := fun j hj => hcu j _ (txt_get hj)
  have HA : Hid (∀ j, j < at'.length → ∃ b off, oa = some ⟨b, off, none⟩ ∧ b < w.heap.size ∧ w.cell? ⟨b, off + j, none⟩ = some (.int .u16 ((at'.getD j 0 : Nat) : Int))) := fun j hj => by
    obtain ⟨b, off, h1, h2, h3⟩ := hfa (by omega)
    exact ⟨b, off, h1, h2, h3 j hj⟩
  have HLT : Hid (∀ j, at'.getD j 0 < 65536) := ha
  clear hv hu hA hf hfa hcu ha
  go_enter Try.func9, Try.ntmps9
  go_wp2_with fail
  refine Calls.mono CC.out ?_
  rintro e W0 ⟨rfl, R0, B0, z0⟩
  have HR0 : Hid _ := R0
  have HB0 : Hid _ := B0
  clear CC R0 B0 z0
  obtain ⟨g, hg⟩ : ∃ g, g = w.heap.size := ⟨_, rfl⟩
  have HG : Hid (g = w.heap.size) := hg
  rw [← hg] at HR0 HB0 ⊢
  clear hg
  go_wp2_with fail
  go_loopw [8] (fun iv wr => ∃ k : Nat, iv = .int .i64 (k : Int) ∧ k ≤ at'.length ∧ (d.length = 0 → k = 0) ∧ Hid (wr.heap[g]? = some (.cells (ik .u8 (plt d ws at' k)) 5 (0, 0))) ∧ Hid (Below g w wr)) (fun iv _ => at'.length - (intOf iv).toNat)
  case atStart => exact ⟨0, rfl, by omega, fun _ => rfl, HR0, HB0⟩
  case round =>
    clear HR0 HB0
    obtain ⟨k, rfl, hk, hk0, HR, HB⟩ := hrel
    by_cases hlt : k < at'.length
    · have hk1 : (k : Int) < (at'.length : Int) := by omega
      have hk0' : (0 : Int) ≤ (k : Int) := by omega
      by_cases hd0 : 0 < d.length
      · have hd0' : (0 : Int) < (d.length : Int) := by omega
        obtain ⟨b, off, rfl, hb, hca⟩ := HA.out k hlt
        obtain ⟨q, hq⟩ : ∃ q, q = k % ws.length := ⟨_, rfl⟩
        obtain ⟨x, hx⟩ : ∃ x, x = at'.getD k 0 := ⟨_, rfl⟩
        obtain ⟨p, hp⟩ : ∃ p, p = x % d.length := ⟨_, rfl⟩
        have hqw : q < ws.length := by rw [hq]; exact Nat.mod_lt _ hw0
        have hpd : p < d.length := by rw [hp]; exact Nat.mod_lt _ hd0
        have c1 : wr.cell? ⟨b, off + k, none⟩ = some (.int .u16 (x : Int)) := by
          rw [hx]; exact (World.cell?_of_block (w := w) (HB.out.block b (by rw [HG.out]; exact hb))).trans hca
        have c2 : wr.cell? ⟨bu, offu + q, none⟩ = some (.string (txt ws q)) := (World.cell?_of_block (w := w) (HB.out.block bu (by rw [HG.out]; exact hbu))).trans (HU.out q hqw)
        have hx16 : x < 65536 := by rw [hx]; exact HLT.out k
        have hpl := plt_len d ws at' hd0 k
        obtain ⟨D, hD⟩ : ∃ D, wr.drew = D := ⟨_, rfl⟩
        have hDh : D.heap = wr.heap := by rw [← hD]; rfl
        have c1 : D.cell? ⟨b, off + k, none⟩ = some (.int .u16 (x : Int)) := by rw [← hD]; exact c1
        have c2 : D.cell? ⟨bu, offu + q, none⟩ = some (.string (txt ws q)) := by rw [← hD]; exact c2
        have rc := fun ty => run_cpS D ty g p (d.length - p) (d.length - p) (plt d ws at' k) (txt ws q) (by rw [hDh]; exact HR.out) (by omega)
        have rs := run_cutL g d.length p hpd
        have e1 : Int.tmod (x : Int) (d.length : Int) = (p : Int) := by rw [hp]; exact (Int.ofNat_tmod x d.length).symm
        have e2 : Int.tmod (k : Int) (ws.length : Int) = (q : Int) := by rw [hq]; exact (Int.ofNat_tmod k ws.length).symm
        have n1 : ¬ ((d.length : Int) = 0) := by omega
        have n2 : ¬ ((ws.length : Int) = 0) := by omega
        have q0 : (0 : Int) ≤ (q : Int) := by omega
        have q1 : (q : Int) < (ws.length : Int) := by omega
        have HR2 : Hid ((D.setRow g (ik .u8 (plt d ws at' (k + 1)))).heap[g]? = some (.cells (ik .u8 (plt d ws at' (k + 1))) 5 (0, 0))) := setRow_heap _ _ _ _ _ _ (by rw [hDh]; exact HR.out)
        have HB2 : Hid (Below g w (D.setRow g (ik .u8 (plt d ws at' (k + 1))))) := below_setRow (by rw [← hD]; exact Below.drewN' HB.out 1) (Nat.le_refl _) _
        have hpe : ovr (plt d ws at' k) ((tl (txt ws q)).take (min (txt ws q).size (d.length - p))) p = plt d ws at' (k + 1) := by rw [plt, ← hq, ← hx, ← hp]
        rw [hpe] at rc
        clear hpe HR HB hDh hp hq hx HA
        generalize txt ws q = tw at *
        go_wp2_with fail
        go_big_region
        go_wp2
        exact ⟨⟨k + 1, by rfl, by omega, fun h => by omega, HR2, HB2⟩, by simp only [intOf]; omega⟩
      · have hd0' : ¬ ((0 : Int) < (d.length : Int)) := by omega
        have hd1 : d.length = 0 := by omega
        have hkk := hk0 hd1
        have HE : Hid (wr.heap[g]? = some (.cells (ik .u8 (pltD d ws at')) 5 (0, 0))) := by
          show _ = _
          rw [pltD, if_pos hd1]
          have := HR.out
          rw [hkk] at this; exact this
        have HGB : Hid (w.heap.size ≤ g ∧ Below w.heap.size w wr) := ⟨by rw [HG.out]; exact Nat.le_refl _, by rw [← HG.out]; exact HB.out⟩
        clear hkk hk0 hd1 hd0 HR HB HG HA
        go_wp2
        go_ret
        exact ⟨g, rfl, HGB.out.1, HE.out, HGB.out.2⟩
    · have hk1 : ¬ ((k : Int) < (at'.length : Int)) := by omega
      have hke : k = at'.length := by omega
      have HE : Hid (wr.heap[g]? = some (.cells (ik .u8 (pltD d ws at')) 5 (0, 0))) := by
        show _ = _
        rw [HR.out]
        by_cases h0 : d.length = 0
        · rw [pltD, if_pos h0, hk0 h0]; rfl
        · rw [pltD, if_neg h0, hke]
      have HGB : Hid (w.heap.size ≤ g ∧ Below w.heap.size w wr) := ⟨by rw [HG.out]; exact Nat.le_refl _, by rw [← HG.out]; exact HB.out⟩
      clear hke hk0 HR HB HG HA
      go_wp2
      go_ret
      exact ⟨g, rfl, HGB.out.1, HE.out, HGB.out.2⟩
end Go.Proofs.Ytceaklefdahfkab
