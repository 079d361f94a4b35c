/- Base 64: the document's. -/
import Derived.Test.YtkppejaigodgiabDoorSl
namespace Go.Proofs.YtkppejaigodgiabDoor
open Go.RowKit
def dig64A : ByteArray := ⟨#[65, 66, 67, 68, 69, 70, 71, 72, 73, 74, 75, 76, 77, 78, 79, 80, 81, 82, 83, 84, 85, 86, 87, 88, 89, 90, 97, 98, 99, 100, 101, 102, 103, 104, 105, 106, 107, 108, 109, 110, 111, 112, 113, 114, 115, 116, 117, 118, 119, 120, 121, 122, 48, 49, 50, 51, 52, 53, 54, 55, 56, 57, 43, 47]⟩
theorem dig64_nat (n : Nat) (h : n < dig64A.size) : (dig64A[n]'h).toNat = g64 n := by
  have : ∀ y : Fin 64, (dig64A.get! y.val).toNat = g64 y.val := by decide +kernel
  rw [← Go.get_at dig64A n h]
  exact this ⟨n, h⟩
/-- A digit by its number, kept shut. -/
def ix64 (v : Value) : Sem Value := Instr.index 9 (.string dig64A) v
theorem toIx64 (v : Value) : Instr.index 9 (.string ⟨#[65, 66, 67, 68, 69, 70, 71, 72, 73, 74, 75, 76, 77, 78, 79, 80, 81, 82, 83, 84, 85, 86, 87, 88, 89, 90, 97, 98, 99, 100, 101, 102, 103, 104, 105, 106, 107, 108, 109, 110, 111, 112, 113, 114, 115, 116, 117, 118, 119, 120, 121, 122, 48, 49, 50, 51, 52, 53, 54, 55, 56, 57, 43, 47]⟩) v = ix64 v := rfl
theorem run_ix64 (w : World) (D : Nat) (h : D < 64) : (ix64 (.int .i64 (D : Int))).run Tryd.prog w = .ok (.int .u8 ((g64 D : Nat) : Int)) w := by
  have h64 : D < dig64A.size := h
  have e := dig64_nat D h64
  unfold ix64
  simp [Instr.index, asIntOf, Sem.run_bind, run_underlying Tryd.underlying9, h64, e]
/-- The chunk's bytes as a number. -/
def ac (s : List Nat) (i : Nat) : Nat → Nat
  | 0 => 0
  | j + 1 => ac s i j * 256 + s.getD (i + j) 0
theorem ac_lt (s : List Nat) (hb : Byt s) (i : Nat) : ∀ j, j ≤ 3 → ac s i j < 16777216
  | 0, _ => by simp [ac]
  | 1, _ => by have := getT hb (i + 0); simp only [ac]; omega
  | 2, _ => by have := getT hb (i + 0); have := getT hb (i + 1); simp only [ac]; omega
  | 3, _ => by have := getT hb (i + 0); have := getT hb (i + 1); have := getT hb (i + 2); simp only [ac]; omega
theorem ac_lt' (s : List Nat) (hb : Byt s) (i : Nat) : ∀ j, j < 3 → ac s i j < 65536
  | 0, _ => by simp [ac]
  | 1, _ => by have := getT hb (i + 0); simp only [ac]; omega
  | 2, _ => by have := getT hb (i + 0); have := getT hb (i + 1); simp only [ac]; omega
theorem ch64_at (s : List Nat) (hb : Byt s) (i h j : Nat) (h1 : 1 ≤ h) (hj : j < 4) : (ch64 (s.getD i 0) (s.getD (i + 1) 0) (s.getD (i + 2) 0) h).getD j 0 = if j ≤ h then g64 (ac s i 3 / 2 ^ (18 - 6 * j) % 64) else 61 := by
  have ha := getT hb i
  have hb1 := getT hb (i + 1)
  have hc := getT hb (i + 2)
  have hac : ac s i 3 = (s.getD i 0 * 256 + s.getD (i + 1) 0) * 256 + s.getD (i + 2) 0 := by simp [ac]
  rw [hac]
  generalize s.getD i 0 = a at *
  generalize s.getD (i + 1) 0 = b at *
  generalize s.getD (i + 2) 0 = c at *
  have : j = 0 ∨ j = 1 ∨ j = 2 ∨ j = 3 := by omega
  rcases this with rfl | rfl | rfl | rfl
  · rw [if_pos (by omega)]
    show g64 (a / 4) = _
    congr 1
    simp
    omega
  · rw [if_pos (by omega)]
    show g64 (a % 4 * 16 + b / 16) = _
    congr 1
    simp
    omega
  · show (if 2 ≤ h then g64 (b % 16 * 4 + c / 64) else 61) = _
    split
    · congr 1
      simp
      omega
    · rfl
  · show (if 3 ≤ h then g64 (c % 64) else 61) = _
    split
    · congr 1
      simp
      omega
    · rfl
theorem take_one (l : List Nat) (k : Nat) (h : k < l.length) : l.take (k + 1) = l.take k ++ [l.getD k 0] := by
  rw [List.take_succ_eq_append_getElem h]; simp [List.getD, h]
attribute [local go_sem ↓] toApp toIx64
theorem run_app1 (w : World) (base n : Nat) (v : Value) (l : List Nat) (x : Nat) (hown : w.ownsRow base 5 1 v n (bs l).toList) (hb : n + 1 ≤ 140737488355328) (hbase : base ≤ w.heap.size) :
    ∃ v' w', (appR 22 #[v, .slice (some ⟨w.heap.size, 0, none⟩) 1 1]).run Tryd.prog (w.alloc (.cells #[.int .u8 (x : Int)] 5)) = .ok v' w' ∧ w'.ownsRow base 5 1 v' (n + 1) (bs (l ++ [x])).toList ∧ Below base w w' := by
  have hy : Byl (.slice (some ⟨w.heap.size, 0, none⟩) 1 1) [x] (w.alloc (.cells #[.int .u8 (x : Int)] 5)) := byl_row (l := [x]) (heap_alloc_new w (.cells (bs [x]) 5)) (by unfold maxLen; simp)
  obtain ⟨v', w', hr, ho, hg⟩ := run_append_byl (w.alloc (.cells #[.int .u8 (x : Int)] 5)) base n 22 v _ l [x] (hown.alloc _) hy (by simpa using hb) (by simp; omega)
  exact ⟨v', w', hr, ho, below_grown ((Below.refl _ w).alloc hbase _) hg (by simp; omega) (fun g hg => (hown.lt g hg).1)⟩
set_option maxRecDepth 100000 in
set_option maxHeartbeats 3200000 in
theorem b64R_any (s : List Nat) (hb : Byt s) (hl : s.length ≤ 1099511627776) (v : Value) (w : World) (hv : Byl v s w) :
    Calls Tryd.prog 15 #[v] w fun e w' => e = .returned (txt (b64L s)) ∧ Below w.heap.size w w' := by
  obtain ⟨o, c, rfl, _, _, ho⟩ := hv.form
  clear hv
  go_enter Tryd.func15, Tryd.ntmps15
  go_wp2_with fail
  go_loopw [3, 4] (fun ov i wr => ∃ k : Nat, i = .int .i64 ((3 * k : Nat) : Int) ∧ 3 * k ≤ s.length + 2 ∧ Hid (wr.ownsRow w.heap.size 5 1 ov (4 * k) (bs (b64L (s.take (3 * k)))).toList) ∧ Below w.heap.size w wr) (fun _ i _ => s.length + 3 - (intOf i).toNat)
  case atStart => exact ⟨0, rfl, by omega, World.ownsRow_nil _ _ _ _, Below.refl _ w⟩
  case round =>
    obtain ⟨k, rfl, hk, hown, hbl⟩ := hrel
    obtain ⟨I, hI⟩ : ∃ I, I = 3 * k := ⟨_, rfl⟩
    have hbz := hbl.size
    by_cases hlt : I < s.length
    · have hI1 : (I : Int) < (s.length : Int) := by omega
      have hI0 : (0 : Int) ≤ (I : Int) := by omega
      obtain ⟨b1, o1, rfl, hb1, hc1⟩ := ho (by omega)
      have HI : Hid (I = 3 * k) := hI
      rw [← hI]
      clear hI
      go_wp2_with fail
      go_loopw [5, 6, 7] (fun x y i wq => ∃ j : Nat, i = .int .i64 (j : Int) ∧ j ≤ 3 ∧ x = .int .i64 ((ac s I j : Nat) : Int) ∧ y = .int .i64 ((min j (s.length - I) : Nat) : Int) ∧ wq = wr) (fun _ _ i _ => 3 - (intOf i).toNat)
      case atStart => exact ⟨0, rfl, by omega, rfl, by simp, rfl⟩
      case round =>
        obtain ⟨j, rfl, hj, rfl, rfl, rfl⟩ := hrel
        by_cases hj3 : j < 3
        · have hj0 : (0 : Int) ≤ (j : Int) := by omega
          have hj1 : (j : Int) < 3 := by omega
          have hIj : IntKind.i64.wrap ((I : Int) + (j : Int)) = (I : Int) + (j : Int) := by rw [IntKind.wrap_i64]; omega
          obtain ⟨M, hM⟩ : ∃ M, M = ac s I j := ⟨_, rfl⟩
          have hMl : M < 65536 := by rw [hM]; exact ac_lt' s hb I j hj3
          obtain ⟨p, hp⟩ : ∃ p, p = s.getD (I + j) 0 := ⟨_, rfl⟩
          have hp256 : p < 256 := by rw [hp]; exact getT hb _
          have hMW : IntKind.i64.wrap ((M : Int) * 256) = (M : Int) * 256 := by rw [IntKind.wrap_i64]; omega
          have hMW2 : IntKind.i64.wrap ((M : Int) * 256 + (p : Int)) = (M : Int) * 256 + (p : Int) := by rw [IntKind.wrap_i64]; omega
          have hpW : IntKind.i64.wrap (p : Int) = (p : Int) := by rw [IntKind.wrap_i64]; omega
          have HA : Hid (ac s I (j + 1) = M * 256 + p) := by show _ = _; rw [hM, hp]; rfl
          by_cases hin : I + j < s.length
          · have hin' : (I : Int) + (j : Int) < (s.length : Int) := by omega
            have h0' : (0 : Int) ≤ (I : Int) + (j : Int) := by omega
            have hmn : min j (s.length - I) = j := by omega
            have hmn2 : Hid (min (j + 1) (s.length - I) = j + 1) := by show _ = _; omega
            have cp : wr.cell? ⟨b1, o1 + (I + j), none⟩ = some (.int .u8 (p : Int)) := by rw [hp]; exact (World.cell?_of_block (w := w) (hbl.block b1 hb1)).trans (hc1 _ hin)
            rw [hmn, ← hM]
            clear hM hp hmn
            go_wp2
            go_roundw
            case rel => exact ⟨j + 1, by go_num, by omega, by rw [HA.out]; go_num, by rw [hmn2.out]; go_num, trivial⟩
            case measure => simp [intOf]; omega
          · have hin' : ¬ ((I : Int) + (j : Int) < (s.length : Int)) := by omega
            have hp0 : p = 0 := by rw [hp, List.getD, List.getElem?_eq_none (by omega)]; rfl
            have hmn2 : Hid (min (j + 1) (s.length - I) = min j (s.length - I)) := by show _ = _; omega
            have HA' : Hid (ac s I (j + 1) = M * 256) := by show _ = _; rw [HA.out, hp0]; rfl
            rw [← hM]
            generalize hmm : min j (s.length - I) = mm
            rw [hmm] at hmn2
            clear hM hp hmm hp0
            go_wp2
            go_roundw
            case rel => exact ⟨j + 1, by go_num, by omega, by rw [HA'.out]; go_num, by rw [hmn2.out], trivial⟩
            case measure => simp [intOf]; omega
        · have hj1 : ¬ ((j : Int) < 3) := by omega
          have hje : j = 3 := by omega
          subst hje
          obtain ⟨V, hV⟩ : ∃ V, V = ac s I 3 := ⟨_, rfl⟩
          obtain ⟨H, hH⟩ : ∃ H, H = min 3 (s.length - I) := ⟨_, rfl⟩
          rw [← hV, ← hH]
          have hV1 : V < 16777216 := by rw [hV]; exact ac_lt s hb I 3 (by omega)
          have hH1 : 1 ≤ H := by omega
          have hH3 : H ≤ 3 := by omega
          obtain ⟨C, hC⟩ : ∃ C, C = ch64 (s.getD I 0) (s.getD (I + 1) 0) (s.getD (I + 2) 0) H := ⟨_, rfl⟩
          have hCl : C.length = 4 := by rw [hC]; rfl
          have hCat : ∀ j, j < 4 → C.getD j 0 = if j ≤ H then g64 (V / 2 ^ (18 - 6 * j) % 64) else 61 := fun j hj => by rw [hC, hV]; exact ch64_at s hb I H j hH1 hj
          have hend : Hid (b64L (s.take (3 * (k + 1))) = b64L (s.take (3 * k)) ++ C) := by
            show _ = _
            have hIk := HI.out
            rw [hC, hIk]
            by_cases h3 : 3 * k + 3 ≤ s.length
            · rw [show 3 * (k + 1) = 3 * k + 3 by omega, b64L_step s k h3, show H = 3 by omega]
            · rw [List.take_of_length_le (show s.length ≤ 3 * (k + 1) by omega)]
              exact b64L_last s k H (by omega) hH1 hH3
          obtain ⟨L, hL⟩ : ∃ L, L = b64L (s.take (3 * k)) := ⟨_, rfl⟩
          rw [← hL] at hown hend
          have hk4 : 4 * k + 4 ≤ 2199023255552 := by have := HI.out; omega
          clear hV hH hC hL hc1
          have HCat : Hid (∀ j, j < 4 → C.getD j 0 = if j ≤ H then g64 (V / 2 ^ (18 - 6 * j) % 64) else 61) := hCat
          clear hCat
          go_wp2_with fail
          go_loopw [3, 8] (fun ov i wq => ∃ j : Nat, i = .int .i64 (j : Int) ∧ j ≤ 4 ∧ Hid (wq.ownsRow w.heap.size 5 1 ov (4 * k + j) (bs (L ++ C.take j)).toList) ∧ Below w.heap.size w wq) (fun _ i _ => 4 - (intOf i).toNat)
          case atStart => exact ⟨0, rfl, by omega, by rw [List.take_zero, List.append_nil]; exact hown, hbl⟩
          case round =>
            clear hbl hown hbz
            obtain ⟨j, rfl, hj, hown, hbl⟩ := hrel
            have hbz := hbl.size
            by_cases hj4 : j < 4
            · have hj0 : (0 : Int) ≤ (j : Int) := by omega
              have hj1 : (j : Int) < 4 := by omega
              have hgd := HCat.out j hj4
              have htk : C.take (j + 1) = C.take j ++ [C.getD j 0] := take_one C j (by omega)
              by_cases hjH : j ≤ H
              · have hjH' : (j : Int) ≤ (H : Int) := by omega
                rw [if_pos hjH] at hgd
                obtain ⟨S, hS⟩ : ∃ S, S = 18 - 6 * j := ⟨_, rfl⟩
                have hw6 : IntKind.i64.wrap (6 * (j : Int)) = 6 * (j : Int) := by rw [IntKind.wrap_i64]; omega
                have hw18 : IntKind.i64.wrap (18 - 6 * (j : Int)) = (S : Int) := by rw [IntKind.wrap_i64]; omega
                have hS18 : 18 - 6 * (j : Int) = (S : Int) := by omega
                have hSU : IntKind.u64.wrap (S : Int) = (S : Int) := by rw [IntKind.wrap_u64]; omega
                obtain ⟨P, hP⟩ : ∃ P, P = V / 2 ^ S := ⟨_, rfl⟩
                have hPI : (V : Int) / 2 ^ S = (P : Int) := by rw [hP]; simp
                obtain ⟨D, hD⟩ : ∃ D, D = P % 64 := ⟨_, rfl⟩
                have hand : bits BinOp.and IntKind.i64 (P : Int) 63 = (D : Int) := by rw [hD]; exact i64_and63 P
                have hD64 : D < 64 := by omega
                have hS19 : S ≤ 18 := by omega
                have hix := fun w => run_ix64 w D hD64
                rw [← hS, ← hP, ← hD] at hgd
                obtain ⟨v1, w1, hr1, ho1, bel1⟩ := run_app1 wr (w.heap.size) (4 * k + j) u3 _ (g64 D) hown.out (by omega) hbz
                have HO1 : Hid (w1.ownsRow w.heap.size 5 1 v1 (4 * k + (j + 1)) (bs (L ++ C.take (j + 1))).toList) := by
                  show World.ownsRow _ _ _ _ _ _ _
                  rw [htk, hgd, ← List.append_assoc]
                  exact ho1
                have hbl1 : Below w.heap.size w w1 := hbl.trans bel1
                clear ho1 bel1 hS hP hD hgd htk
                go_wp2
                go_roundw
                case rel => exact ⟨j + 1, by go_num, by omega, HO1, hbl1⟩
                case measure => simp [intOf]; omega
              · have hjH' : ¬ ((j : Int) ≤ (H : Int)) := by omega
                rw [if_neg hjH] at hgd
                obtain ⟨v1, w1, hr1, ho1, bel1⟩ := run_app1 wr (w.heap.size) (4 * k + j) u3 _ 61 hown.out (by omega) hbz
                have hr1' : (appR 22 #[u3, .slice (some ⟨wr.heap.size, 0, none⟩) 1 1]).run Tryd.prog (wr.alloc (.cells #[.int .u8 61] 5)) = .ok v1 w1 := hr1
                have HO1 : Hid (w1.ownsRow w.heap.size 5 1 v1 (4 * k + (j + 1)) (bs (L ++ C.take (j + 1))).toList) := by
                  show World.ownsRow _ _ _ _ _ _ _
                  rw [htk, hgd, ← List.append_assoc]
                  exact ho1
                have hbl1 : Below w.heap.size w w1 := hbl.trans bel1
                clear ho1 bel1 hgd htk hr1
                go_wp2
                go_roundw
                case rel => exact ⟨j + 1, by go_num, by omega, HO1, hbl1⟩
                case measure => simp [intOf]; omega
            · have hj1 : ¬ ((j : Int) < 4) := by omega
              have hje : j = 4 := by omega
              subst hje
              have hownF : Hid (wr.ownsRow w.heap.size 5 1 u3 (4 * (k + 1)) (bs (b64L (s.take (3 * (k + 1))))).toList) := by
                show World.ownsRow _ _ _ _ _ _ _
                have := hown.out
                rw [List.take_of_length_le (by omega)] at this
                rw [hend.out]
                exact this
              have hI3 : (I : Int) + 3 = ((3 * (k + 1) : Nat) : Int) := by have := HI.out; omega
              have hIw : IntKind.i64.wrap ((I : Int) + 3) = (I : Int) + 3 := by rw [IntKind.wrap_i64]; omega
              have HI3 : Hid ((I : Int) + 3 = ((3 * (k + 1) : Nat) : Int)) := hI3
              clear hI3
              go_wp2
              go_roundw
              case rel => exact ⟨k + 1, by rw [HI3.out], by have := HI.out; omega, hownF, hbl⟩
              case measure =>
                have := HI.out
                simp [intOf]
                omega
    · have hI1 : ¬ ((I : Int) < (s.length : Int)) := by omega
      have ho' := hown.out
      rw [List.take_of_length_le (by omega)] at ho'
      have hcv := conv_own ho'
      rw [← hI]
      clear ho' hI
      go_wp2
      go_ret
      exact ⟨rfl, hbl⟩
end Go.Proofs.YtkppejaigodgiabDoor
