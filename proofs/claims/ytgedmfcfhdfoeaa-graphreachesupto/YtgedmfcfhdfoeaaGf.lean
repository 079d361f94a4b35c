/- Graphs: lists made; what the nodes need, turned. -/
import Derived.Test.YtgedmfcfhdfoeaaGe
import Derived.Deep.DeepCutAuto
namespace Go.Proofs.Ytgedmfcfhdfoeaa
open Go.RowKit GM
def mkV (l c : Value) : Sem Value := Instr.makeSlice 27 l c
theorem toMkV (l c : Value) : Instr.makeSlice 27 l c = mkV l c := rfl
def mkW (l c : Value) : Sem Value := Instr.makeSlice 54 l c
theorem toMkW (l c : Value) : Instr.makeSlice 54 l c = mkW l c := rfl
def mkI (l c : Value) : Sem Value := Instr.makeSlice 32 l c
theorem toMkI (l c : Value) : Instr.makeSlice 32 l c = mkI l c := rfl
def mkE (l c : Value) : Sem Value := Instr.makeSlice 22 l c
theorem toMkE (l c : Value) : Instr.makeSlice 22 l c = mkE l c := rfl
theorem rws_new (w : World) (n : Nat) : Rws w.heap.size n (fun _ => []) (fun _ => .slice none 0 0) (w.alloc (.cells (madeCells #[.slice none 0 0] n) 32)) := by
  refine ⟨⟨madeCells #[.slice none 0 0] n, heap_alloc_new w _, ?_, fun j hj => ?_⟩, fun j _ => World.ownsRow_nil _ _ _ _, fun i j _ _ _ k hk => by cases hk⟩
  · have := congrArg List.length (toList_madeCells_one (.slice none 0 0) n)
    simpa using this
  · rw [← Array.getElem?_toList, toList_madeCells_one]
    simp [hj]
set_option maxRecDepth 1000000 in
theorem run_mkV (w : World) (n : Nat) (hn : n ≤ 1099511627776) : ∃ w', (mkV (.int .i64 (n : Int)) (.int .i64 (n : Int))).run Try.prog w = .ok (.slice (some ⟨w.heap.size, 0, none⟩) n n) w' ∧ Rws w.heap.size n (fun _ => []) (fun _ => .slice none 0 0) w' ∧ Below w.heap.size w w' := by
  obtain ⟨i0, hi0, hz0, hz1, hz2⟩ := info_parts info35
  have hr := run_make (P := Try.prog) w 27 32 i0 _ (by kernel_rfl) hi0 hz0 .i64 .i64 n n (by omega) (Int.le_refl _) (by rw [hz2]; omega) (by omega)
  simp only [Int.toNat_natCast] at hr
  refine ⟨_, hr, ?_, (Below.refl _ w).alloc (Nat.le_refl _) _⟩
  rw [hz1, Nat.mul_one]
  exact rws_new w n
set_option maxRecDepth 1000000 in
theorem run_mkW (w : World) (n : Nat) (hn : n ≤ 1099511627776) : ∃ w', (mkW (.int .i64 (n : Int)) (.int .i64 (n : Int))).run Try.prog w = .ok (.slice (some ⟨w.heap.size, 0, none⟩) n n) w' ∧ Rws w.heap.size n (fun _ => []) (fun _ => .slice none 0 0) w' ∧ Below w.heap.size w w' := by
  obtain ⟨i0, hi0, hz0, hz1, hz2⟩ := info_parts info35
  have hr := run_make (P := Try.prog) w 54 32 i0 _ (by kernel_rfl) hi0 hz0 .i64 .i64 n n (by omega) (Int.le_refl _) (by rw [hz2]; omega) (by omega)
  simp only [Int.toNat_natCast] at hr
  refine ⟨_, hr, ?_, (Below.refl _ w).alloc (Nat.le_refl _) _⟩
  rw [hz1, Nat.mul_one]
  exact rws_new w n
set_option maxRecDepth 1000000 in
theorem run_mkI (w : World) (n : Nat) (hn : n ≤ 1099511627776) : ∃ w', (mkI (.int .i64 (n : Int)) (.int .i64 (n : Int))).run Try.prog w = .ok (.slice (some ⟨w.heap.size, 0, none⟩) n n) w' ∧ w'.heap[w.heap.size]? = some (.cells (ik (List.replicate n 0)) 3 (0, 0)) ∧ Below w.heap.size w w' := by
  obtain ⟨i0, hi0, hz0, hz1, hz2⟩ := info_parts info3
  have hr := run_make (P := Try.prog) w 32 3 i0 _ (by kernel_rfl) hi0 hz0 .i64 .i64 n n (by omega) (Int.le_refl _) (by rw [hz2]; omega) (by omega)
  simp only [Int.toNat_natCast] at hr
  refine ⟨_, hr, ?_, (Below.refl _ w).alloc (Nat.le_refl _) _⟩
  rw [heap_alloc_new, hz1, Nat.mul_one]
  congr 2
  apply Array.ext'
  have : (Value.int IntKind.i64 0).cells = #[Value.int .i64 0] := rfl
  rw [this, toList_madeCells_one]
  simp [ik]
set_option maxRecDepth 1000000 in
theorem run_mkE (w : World) (n : Nat) (hn : n ≤ 1099511627776) : ∃ w', (mkE (.int .i64 (n : Int)) (.int .i64 (n : Int))).run Try.prog w = .ok (.slice (some ⟨w.heap.size, 0, none⟩) n n) w' ∧ w'.heap[w.heap.size]? = some (.cells (ec (List.replicate n (0, 0))).toArray 52 (0, 0)) ∧ Below w.heap.size w w' := by
  obtain ⟨i0, hi0, hz0, hz1, hz2⟩ := info_parts info53
  have hr := run_make (P := Try.prog) w 22 52 i0 _ (by kernel_rfl) hi0 hz0 .i64 .i64 n n (by omega) (Int.le_refl _) (by rw [hz2]; omega) (by omega)
  simp only [Int.toNat_natCast] at hr
  refine ⟨_, hr, ?_, (Below.refl _ w).alloc (Nat.le_refl _) _⟩
  rw [heap_alloc_new]
  congr 2
  rw [hz1]
  have e1 : ec (List.replicate n (0, 0)) = List.replicate (n * 2) (.int .i64 0) := by
    rw [List.eq_replicate_iff]
    refine ⟨by rw [ec_len, List.length_replicate], fun x hx => ?_⟩
    unfold ec at hx
    rw [List.mem_flatMap] at hx
    obtain ⟨y, hy, h⟩ := hx
    rw [List.eq_of_mem_replicate hy] at h
    simpa using h
  rw [e1]
  apply Array.ext'
  rw [List.eq_replicate_iff]
  refine ⟨by simp [madeCells], fun x hx => ?_⟩
  unfold madeCells at hx
  rw [Array.toList_map, List.mem_map] at hx
  obtain ⟨i, -, rfl⟩ := hx
  show (#[Value.int IntKind.i64 0, Value.int IntKind.i64 0] : Array Value)[i % 2]! = _
  have : i % 2 = 0 ∨ i % 2 = 1 := by omega
  rcases this with h | h <;> rw [h] <;> rfl
/-- Edges of nodes, as numbers. -/
def zE (E : List (Nat × Nat)) : List (Int × Int) := E.map fun e => ((e.1 : Int), (e.2 : Int))
theorem zE_len (E : List (Nat × Nat)) : (zE E).length = E.length := by simp [zE]
theorem zE_get (E : List (Nat × Nat)) (i x y : Nat) (h : E[i]? = some (x, y)) : (zE E).getD i (0, 0) = ((x : Int), (y : Int)) := by simp [zE, List.getD, h]
attribute [local go_sem ↓] toMkV toMkW toApI
set_option maxRecDepth 100000 in
set_option maxHeartbeats 2000000 in
theorem turned_any (N : Nat) (hN : N ≤ 8192) (L : Nat → List Nat) (hL : ∀ b, b < N → ∀ a ∈ L b, a < N) (hn : ∀ b, (L b).length ≤ 1073741824) (g : Nat) (V : Nat → Value) (w : World) (hr : Rws g N L V w) :
    Calls Try.prog 61 #[.slice (some ⟨g, 0, none⟩) N N] w fun e w' => ∃ g' V', e = .returned (.slice (some ⟨g', 0, none⟩) N N) ∧ Rws g' N (trL L N) V' w' ∧ Below w.heap.size w w' ∧ w.heap.size ≤ g' := by
  obtain ⟨W1, s1, R1, b1⟩ := run_mkW w N (by omega)
  have HR1 : Hid (Rws w.heap.size N (trL L 0) (fun _ => .slice none 0 0) W1 ∧ Below w.heap.size w W1) := ⟨R1.congr fun j _ => by simp [trL], b1⟩
  have HRL : Hid (Rws g N L V w) := hr
  have HL : Hid (∀ b, b < N → ∀ a ∈ L b, a < N) := hL
  have HN : Hid (N ≤ 8192 ∧ ∀ b, (L b).length ≤ 1073741824) := ⟨hN, hn⟩
  clear R1 b1 hr hL hn hN
  go_enter Try.func61, Try.ntmps61
  go_wp2_with fail
  go_loopw [13] (fun i wr => ∃ (k : Nat) (U : Nat → Value), i = .int .i64 (k : Int) ∧ k ≤ N ∧ Hid (Rws w.heap.size N (trL L k) U wr ∧ Below w.heap.size w wr)) (fun i _ => N - (intOf i).toNat)
  case atStart => exact ⟨0, _, rfl, Nat.zero_le _, HR1⟩
  case round =>
    clear HR1 s1
    obtain ⟨k, U, rfl, hk, HI⟩ := hrel
    by_cases hlt : k < N
    · have hk1 : (k : Int) < (N : Int) := by omega
      have hk0 : (0 : Int) ≤ (k : Int) := by omega
      have hk2 : (k : Int) + 1 < 9223372036854775808 := by have := HN.out.1; omega
      have cV : wr.cell? ⟨g, k, none⟩ = some (V k) := (World.cell?_of_block (w := w) (HI.out.2.block g HRL.out.lt)).trans (HRL.out.cell k hlt).1
      obtain ⟨-, o, c, hVk, hVg⟩ := own_get (HRL.out.own k hlt)
      rw [hVk] at cV
      obtain ⟨len, hlen⟩ : ∃ len, len = (L k).length := ⟨_, rfl⟩
      rw [← hlen] at cV
      have HV : Hid (len = (L k).length ∧ (0 < (L k).length → ∃ b, o = some ⟨b, 0, none⟩ ∧ b < w.heap.size ∧ ∀ j, j < (L k).length → w.cell? ⟨b, j, none⟩ = some (.int .i64 (((L k).getD j 0 : Nat) : Int)))) := ⟨hlen, fun h => by obtain ⟨b, h1, h2, -, h4⟩ := hVg h; exact ⟨b, h1, h2, h4⟩⟩
      clear hVk hVg hlen
      go_wp2_with fail
      have HI0 : Hid (Rws w.heap.size N (trS L k 0) U wr ∧ Below w.heap.size w wr) := ⟨HI.out.1.congr fun j _ => (trS_zero L k j).symm, HI.out.2⟩
      clear HI cV
      go_loopw [21] (fun i wr2 => ∃ (j : Nat) (U : Nat → Value), i = .int .i64 (j : Int) ∧ j ≤ len ∧ Hid (Rws w.heap.size N (trS L k j) U wr2 ∧ Below w.heap.size w wr2)) (fun i _ => len - (intOf i).toNat)
      case atStart => exact ⟨0, U, rfl, Nat.zero_le _, HI0⟩
      case round =>
        clear HI0
        obtain ⟨j, U2, rfl, hj, HI2⟩ := hrel
        by_cases hjl : j < len
        · have hj1 : (j : Int) < (len : Int) := by omega
          have hj0 : (0 : Int) ≤ (j : Int) := by omega
          have hj2 : (j : Int) + 1 < 9223372036854775808 := by have := HV.out.1; have := HN.out.2 k; omega
          obtain ⟨bL, rfl, hbL, hcL⟩ := HV.out.2 (by have := HV.out.1; omega)
          have cx := (World.cell?_of_block (w := w) (HI2.out.2.block bL hbL)).trans (hcL j (by have := HV.out.1; omega))
          obtain ⟨x, hx⟩ : ∃ x, x = (L k).getD j 0 := ⟨_, rfl⟩
          have hxs : (L k)[j]? = some x := by
            have : j < (L k).length := by have := HV.out.1; omega
            rw [hx]; simp [List.getD, this]
          have hxN : x < N := HL.out k hlt x (List.mem_of_getElem? hxs)
          rw [← hx] at cx
          have hx1 : (x : Int) < (N : Int) := by omega
          have hx0 : (0 : Int) ≤ (x : Int) := by omega
          obtain ⟨-, o2, c2, hU, hUg⟩ := own_get (HI2.out.1.own x hxN)
          obtain ⟨m, hm⟩ : ∃ m, m = (trS L k j x).length := ⟨_, rfl⟩
          rw [← hm] at hU
          have cU := (HI2.out.1.cell x hxN).1
          rw [hU] at cU
          obtain ⟨v', W2, sA, cA, fA, RA, bA⟩ := HI2.out.1.add x k hxN (by have := trS_len L k j x; have := HN.out.1; omega)
          rw [hU] at sA cA
          obtain ⟨o3, c3, rfl⟩ : ∃ o3 c3, v' = .slice o3 (m + 1) c3 := by
            have := RA.own x hxN
            rw [upd_same, upd_same, List.length_append, List.length_singleton, ← hm] at this
            exact own_size this
          have HADD : Hid (Rws w.heap.size N (upd (trS L k j) x (trS L k j x ++ [k])) (upd U2 x (.slice o3 (m + 1) c3)) (W2.setCell ⟨w.heap.size, x, none⟩ (.slice o3 (m + 1) c3)) ∧ Below w.heap.size w (W2.setCell ⟨w.heap.size, x, none⟩ (.slice o3 (m + 1) c3))) := ⟨RA, HI2.out.2.trans (bA _ (Nat.le_refl _))⟩
          have HM : Hid (m = (trS L k j x).length ∧ m ≤ k + 1) := ⟨hm, by rw [hm]; exact trS_len L k j x⟩
          have hmk : (m : Int) < 9223372036854775808 := by have := HM.out.2; have := HN.out.1; omega
          have HX : Hid ((L k)[j]? = some x) := hxs
          have HJ : Hid (j < len ∧ k < N) := ⟨hjl, hlt⟩
          clear RA bA hm hx hxs hcL hj hjl hk hlt hxN
          by_cases hm0 : m = 0
          · subst hm0
            have HNEW : Hid (Rws w.heap.size N (trS L k (j + 1)) (upd U2 x (.slice o3 (0 + 1) c3)) (W2.setCell ⟨w.heap.size, x, none⟩ (.slice o3 (0 + 1) c3)) ∧ Below w.heap.size w (W2.setCell ⟨w.heap.size, x, none⟩ (.slice o3 (0 + 1) c3))) := by
              refine ⟨HADD.out.1.congr fun i _ => ?_, HADD.out.2⟩
              by_cases hi : i = x
              · rw [hi, upd_same, trS_new L k j x HX.out]
                rw [List.length_eq_zero_iff.1 HM.out.1.symm]
                simp
              · rw [upd_other _ _ _ _ hi, trS_other L k j i x HX.out hi]
            clear HADD hUg hU HI2
            go_wp2
            go_roundw
            case rel => exact ⟨j + 1, _, rfl, HJ.out.1, HNEW⟩
            case measure => have := HJ.out.1; simp only [intOf]; omega
          · obtain ⟨b2, rfl, hb2, -, hc2⟩ := hUg (by have := HM.out.1; omega)
            obtain ⟨m1, hm1⟩ : ∃ m1, m = m1 + 1 := ⟨m - 1, by omega⟩
            have cl := hc2 m1 (by have := HM.out.1; omega)
            obtain ⟨y, hy⟩ : ∃ y, y = (trS L k j x).getD m1 0 := ⟨_, rfl⟩
            rw [← hy] at cl
            have hlast : (trS L k j x).getLast? = some y := by
              rw [List.getLast?_eq_getElem?, ← HM.out.1, hm1, Nat.add_sub_cancel, hy]
              have : m1 < (trS L k j x).length := by have := HM.out.1; omega
              simp [List.getD, this]
            have e1 : ((m : Int) == 0) = false := by simpa using hm0
            have e1' : decide ((m : Int) = 0) = false := by simpa using hm0
            have e2 : IntKind.i64.wrap ((m : Int) - 1) = (m1 : Int) := by rw [wi _ (by unfold I64; omega)]; omega
            have e3 : (0 : Int) ≤ (m1 : Int) := by omega
            have e4 : (m1 : Int) < (m : Int) := by omega
            have HLAST : Hid ((trS L k j x).getLast? = some y) := hlast
            clear hlast hy hm1 hc2 hUg hU hm0 hmk
            by_cases hyk : y = k
            · subst hyk
              have HNEW : Hid (Rws w.heap.size N (trS L y (j + 1)) U2 wr ∧ Below w.heap.size w wr) := by
                refine ⟨HI2.out.1.congr fun i _ => ?_, HI2.out.2⟩
                by_cases hi : i = x
                · rw [hi, trS_in L y j x HX.out HLAST.out]
                · rw [trS_other L y j i x HX.out hi]
              clear HADD HI2
              go_wp2
              go_roundw
              case rel => exact ⟨j + 1, _, rfl, HJ.out.1, HNEW⟩
              case measure => have := HJ.out.1; simp only [intOf]; omega
            · have e5 : ((y : Int) == (k : Int)) = false := by simpa using (fun h : (y : Int) = k => hyk (by omega))
              have e6 : decide ((y : Int) = (k : Int)) = false := by simpa using (fun h : (y : Int) = k => hyk (by omega))
              have HNEW : Hid (Rws w.heap.size N (trS L k (j + 1)) (upd U2 x (.slice o3 (m + 1) c3)) (W2.setCell ⟨w.heap.size, x, none⟩ (.slice o3 (m + 1) c3)) ∧ Below w.heap.size w (W2.setCell ⟨w.heap.size, x, none⟩ (.slice o3 (m + 1) c3))) := by
                refine ⟨HADD.out.1.congr fun i _ => ?_, HADD.out.2⟩
                by_cases hi : i = x
                · rw [hi, upd_same, trS_new L k j x HX.out]
                  rw [HLAST.out]
                  simpa using hyk
                · rw [upd_other _ _ _ _ hi, trS_other L k j i x HX.out hi]
              clear HADD HI2 hyk hj2 hk2
              go_upto_region 10 with fail
              clear cx cl e1 e1' e2 e3 e4 e5 e6 hj1 hj0 hk1 hk0
              go_upto_region 11 with fail
              clear sA cA fA cU hx1 hx0
              have hj2 : (j : Int) + 1 < 9223372036854775808 := by have := HV.out.1; have := HN.out.2 k; have := HJ.out.1; omega
              go_wp2
              go_roundw
              case rel => exact ⟨j + 1, _, rfl, HJ.out.1, HNEW⟩
              case measure => have := HJ.out.1; simp only [intOf]; omega
        · have hj1 : ¬ ((j : Int) < (len : Int)) := by omega
          have HNEW : Hid (Rws w.heap.size N (trL L (k + 1)) U2 wr ∧ Below w.heap.size w wr) := by
            refine ⟨HI2.out.1.congr fun i _ => ?_, HI2.out.2⟩
            rw [show j = (L k).length by have := HV.out.1; omega, trS_end]
          clear HI2
          go_wp2
          go_roundw
          case rel => exact ⟨k + 1, _, rfl, hlt, HNEW⟩
          case measure => simp only [intOf]; omega
    · have hk1 : ¬ ((k : Int) < (N : Int)) := by omega
      go_wp2
      go_ret
      have := HI.out.1
      rw [show k = N by omega] at this
      exact ⟨w.heap.size, rfl, ⟨U, this⟩, HI.out.2, Nat.le_refl _⟩
end Go.Proofs.Ytgedmfcfhdfoeaa
