/- DigestHashers: the operations of its region 15. -/
import Derived.Test.YtkppejaigodgiacDoorHsV
import Derived.Test.YtkppejaigodgiacDoorRg
namespace Go.Proofs.YtkppejaigodgiacDoor.Hash
open Go.RowKit Go.Proofs.YtkppejaigodgiacDoor.Sha
theorem wp_of_K {P : Program} {o : Oper} {a : Act} {w : World} {Q : Exit → Act → World → Prop} {Z : Value → World → Prop} (h : ∀ K : Act → World → Prop, (∀ v w', Z v w' → K (a.put o.dst v) w') → Oper.wp P o a w K Q) : Oper.wp P o a w (fun a' w' => ∃ v, a' = a.put o.dst v ∧ Z v w') Q := h _ (fun v _ hz => ⟨v, rfl, hz⟩)
noncomputable def reg15 : Array Oper := ((Tryd.f4.body.bind (findR 15)).getD #[])
theorem okR15 : okR reg15 178 = true := by kernel_rfl
def V15 (p : List Nat) (n kk g b F s bA bB fc cA cB pc : Nat) (po : Option Addr) (fa fb : Bool) : Nat → Value → World → Prop
  | 0, v, _ => v = .slice (some ⟨bA, 0, none⟩) n cA
  | 1, v, _ => v = .int .i64 (kk : Int)
  | 2, v, _ => v = .pointer (some ⟨bA, kk, none⟩)
  | 3, v, _ => v = .pointer (some ⟨g, 0, none⟩)
  | 4, v, _ => v = .slice (some ⟨F, 0, none⟩) (p.length + 8) fc
  | 5, v, _ => v = .pointer (some ⟨s, 2, none⟩)
  | 6, v, _ => v = .slice po p.length pc
  | 7, v, _ => v = .int .i64 (p.length : Int)
  | 8, v, _ => v = .slice (some ⟨F, 0, none⟩) p.length fc
  | 9, v, _ => v = .int .i64 0 ∧ fa = true
  | 10, v, _ => v = .slice (some ⟨bB, 0, none⟩) n cB
  | 11, v, _ => v = .int .i64 (kk : Int)
  | 12, v, _ => v = .pointer (some ⟨bB, kk, none⟩)
  | 13, v, _ => v = .pointer (some ⟨b, 0, none⟩)
  | 14, v, _ => v = .pointer (some ⟨s, 2, none⟩)
  | 15, v, _ => v = .slice po p.length pc
  | 16, v, _ => v = .int .i64 0 ∧ fb = true
  | 17, v, _ => v = .bool false ∧ fa = true ∧ fb = true
  | 18, v, _ => v = .bool false ∧ fa = true ∧ fb = true
  | 19, v, _ => v = .slice (some ⟨F, 0, none⟩) (p.length + 8) fc
  | 20, v, _ => v = .pointer (some ⟨s, 2, none⟩)
  | 21, v, _ => v = .slice po p.length pc
  | 22, v, w => YtkppejaigodgiacDoor.Byl v (p ++ marks) w ∧ fa = true ∧ fb = true
  | 23, v, _ => v = .bool true
  | 24, v, _ => v = .bool false
  | 25, v, _ => v = .bool false
  | _, _, _ => True
theorem V15_stab (p : List Nat) (n kk g b F s bA bB fc cA cB pc : Nat) (po : Option Addr) {fa fb ga gb : Bool} {w w' : World} (ha : fa = true → ga = true) (hb : fb = true → gb = true) (hw : fa = true → fb = true → Below w.heap.size w w') : ∀ j u, V15 p n kk g b F s bA bB fc cA cB pc po fa fb j u w → V15 p n kk g b F s bA bB fc cA cB pc po ga gb j u w'
  | 0, _, h => h
  | 1, _, h => h
  | 2, _, h => h
  | 3, _, h => h
  | 4, _, h => h
  | 5, _, h => h
  | 6, _, h => h
  | 7, _, h => h
  | 8, _, h => h
  | 9, _, h => ⟨h.1, ha h.2⟩
  | 10, _, h => h
  | 11, _, h => h
  | 12, _, h => h
  | 13, _, h => h
  | 14, _, h => h
  | 15, _, h => h
  | 16, _, h => ⟨h.1, hb h.2⟩
  | 17, _, h => ⟨h.1, ha h.2.1, hb h.2.2⟩
  | 18, _, h => ⟨h.1, ha h.2.1, hb h.2.2⟩
  | 19, _, h => h
  | 20, _, h => h
  | 21, _, h => h
  | 22, _, h => ⟨YtkppejaigodgiacDoor.Byl.below h.1 (hw h.2.1 h.2.2), ha h.2.1, hb h.2.2⟩
  | 23, _, h => h
  | 24, _, h => h
  | 25, _, h => h
  | _ + 26, _, _ => trivial
set_option maxHeartbeats 1000000 in
theorem step15 (a0 : Act) (p : List Nat) (n kk g b F s bA bB fc cA cB pc : Nat) (po : Option Addr) (S : Bool → Bool → World → Prop) (Q : Exit → Act → World → Prop) (h3 : a0.tmps[3]? = some (.slice (some ⟨bA, 0, none⟩) n cA)) (h4 : a0.tmps[4]? = some (.slice (some ⟨bB, 0, none⟩) n cB)) (h6 : a0.tmps[6]? = some (.pointer (some ⟨s, 0, none⟩))) (h7 : a0.tmps[7]? = some (.int .i64 (kk : Int))) (h8 : a0.tmps[8]? = some (.slice (some ⟨F, 0, none⟩) (p.length + 8) fc))
    (hk0 : (0 : Int) ≤ (kk : Int)) (hk1 : (kk : Int) < (n : Int))
    (hSb : ∀ x y W W', S x y W → Below W.heap.size W W' → S x y W') (hcA : ∀ x y W, S x y W → W.cell? ⟨bA, kk, none⟩ = some (.pointer (some ⟨g, 0, none⟩))) (hcB : ∀ x y W, S x y W → W.cell? ⟨bB, kk, none⟩ = some (.pointer (some ⟨b, 0, none⟩))) (hcP : ∀ x y W, S x y W → W.cell? ⟨s, 2, none⟩ = some (.slice po p.length pc))
    (hsl : ∀ W, (Instr.sliceAt 22 (.slice (some ⟨F, 0, none⟩) (p.length + 8) fc) none (some (.int .i64 (p.length : Int))) none).run Tryd.prog W = .ok (.slice (some ⟨F, 0, none⟩) p.length fc) W)
    (hc12 : ∀ y W, S false y W → Calls Tryd.prog 12 #[.pointer (some ⟨g, 0, none⟩), .slice (some ⟨F, 0, none⟩) p.length fc] W fun e w' => e = .returned (.int .i64 0) ∧ S true y w')
    (hc13 : ∀ x W, S x false W → Calls Tryd.prog 13 #[.pointer (some ⟨b, 0, none⟩), .slice po p.length pc] W fun e w' => e = .returned (.int .i64 0) ∧ S x true w')
    (hc5 : ∀ W, S true true W → Calls Tryd.prog 5 #[.slice po p.length pc] W fun e w' => ∃ x, e = .returned x ∧ Below W.heap.size W w' ∧ YtkppejaigodgiacDoor.Byl x (p ++ marks) w')
    (hc8 : ∀ W x, S true true W → YtkppejaigodgiacDoor.Byl x (p ++ marks) W → Calls Tryd.prog 8 #[.slice (some ⟨F, 0, none⟩) (p.length + 8) fc, x] W fun e w' => e = .returned (.bool true) ∧ Below W.heap.size W w')
    (i : Nat) (o : Oper) (a : Act) (w : World) (listed : Array Bool) (fa fb : Bool) (ho : reg15[i]? = some o) (hF : RFv reg15 a0 (V15 p n kk g b F s bA bB fc cA cB pc po fa fb) listed a w) (hS : S fa fb w) (hfa : i = 9 → fa = false) (hfb : i = 16 → fb = false) (hdep : ∀ e ∈ o.after, Region.binds .any e = true → listed.getD e.on false = true) :
      if Region.wanted o (yielded reg15 a.tmps) = true then Oper.wp Tryd.prog o a w (fun a' w' => ∃ v, a' = a.put o.dst v ∧ V15 p n kk g b F s bA bB fc cA cB pc po (fa || decide (i = 9)) (fb || decide (i = 16)) i v w' ∧ S (fa || decide (i = 9)) (fb || decide (i = 16)) w' ∧ ∀ j u, V15 p n kk g b F s bA bB fc cA cB pc po fa fb j u w → V15 p n kk g b F s bA bB fc cA cB pc po (fa || decide (i = 9)) (fb || decide (i = 16)) j u w') Q else V15 p n kk g b F s bA bB fc cA cB pc po fa fb i undef w ∧ i ≠ 9 ∧ i ≠ 16 := by
  match i, ho with
  | 0, ho =>
    rw [if_pos (want_none (fact ho (by kernel_rfl)))]
    have hop : o.op = .move (.tmp 3) := fact ho (by kernel_rfl)
    have hds : o.dst = some 48 := fact ho (by kernel_rfl)
    have t3 := tv_old hF 3 _ h3 (by kernel_rfl)
    refine wp_of_K (fun K hK => ?_)
    rw [hds] at hK
    unfold Oper.wp
    simp [execOp, hop, hds, t3, go_sem]
    exact hK _ _ ⟨rfl, by simpa using hS, by simp⟩
  | 1, ho =>
    rw [if_pos (want_none (fact ho (by kernel_rfl)))]
    have hop : o.op = .move (.tmp 7) := fact ho (by kernel_rfl)
    have hds : o.dst = some 49 := fact ho (by kernel_rfl)
    have t7 := tv_old hF 7 _ h7 (by kernel_rfl)
    refine wp_of_K (fun K hK => ?_)
    rw [hds] at hK
    unfold Oper.wp
    simp [execOp, hop, hds, t7, go_sem]
    exact hK _ _ ⟨rfl, by simpa using hS, by simp⟩
  | 2, ho =>
    rw [if_pos (want_none (fact ho (by kernel_rfl)))]
    have hop : o.op = .indexAddr 32 (.tmp 48) (.tmp 49) := fact ho (by kernel_rfl)
    have hds : o.dst = some 50 := fact ho (by kernel_rfl)
    have t48 := tv_eq hF 0 48 (.slice (some ⟨bA, 0, none⟩) n cA) (by kernel_rfl) (dep_of ho hdep 0 (by kernel_rfl)) (fun v h => h)
    have t49 := tv_eq hF 1 49 (.int .i64 (kk : Int)) (by kernel_rfl) (dep_of ho hdep 1 (by kernel_rfl)) (fun v h => h)
    refine wp_of_K (fun K hK => ?_)
    rw [hds] at hK
    unfold Oper.wp
    simp [execOp, hop, hds, t48, t49, hk0, hk1, go_sem]
    exact hK _ _ ⟨rfl, by simpa using hS, by simp⟩
  | 3, ho =>
    rw [if_pos (want_none (fact ho (by kernel_rfl)))]
    have hop : o.op = .load 30 (.tmp 50) := fact ho (by kernel_rfl)
    have hds : o.dst = some 51 := fact ho (by kernel_rfl)
    have t50 := tv_eq hF 2 50 (.pointer (some ⟨bA, kk, none⟩)) (by kernel_rfl) (dep_of ho hdep 2 (by kernel_rfl)) (fun v h => h)
    refine wp_of_K (fun K hK => ?_)
    rw [hds] at hK
    unfold Oper.wp
    simp [execOp, hop, hds, t50, hcA _ _ w hS, go_sem]
    exact hK _ _ ⟨rfl, by simpa using hS, by simp⟩
  | 4, ho =>
    rw [if_pos (want_none (fact ho (by kernel_rfl)))]
    have hop : o.op = .move (.tmp 8) := fact ho (by kernel_rfl)
    have hds : o.dst = some 52 := fact ho (by kernel_rfl)
    have t8 := tv_old hF 8 _ h8 (by kernel_rfl)
    refine wp_of_K (fun K hK => ?_)
    rw [hds] at hK
    unfold Oper.wp
    simp [execOp, hop, hds, t8, go_sem]
    exact hK _ _ ⟨rfl, by simpa using hS, by simp⟩
  | 5, ho =>
    rw [if_pos (want_none (fact ho (by kernel_rfl)))]
    have hop : o.op = .fieldAddr 37 (.tmp 6) 2 := fact ho (by kernel_rfl)
    have hds : o.dst = some 53 := fact ho (by kernel_rfl)
    have t6 := tv_old hF 6 _ h6 (by kernel_rfl)
    refine wp_of_K (fun K hK => ?_)
    rw [hds] at hK
    unfold Oper.wp
    simp [execOp, hop, hds, t6, go_sem]
    exact hK _ _ ⟨rfl, by simpa using hS, by simp⟩
  | 6, ho =>
    rw [if_pos (want_none (fact ho (by kernel_rfl)))]
    have hop : o.op = .load 22 (.tmp 53) := fact ho (by kernel_rfl)
    have hds : o.dst = some 54 := fact ho (by kernel_rfl)
    have t53 := tv_eq hF 5 53 (.pointer (some ⟨s, 2, none⟩)) (by kernel_rfl) (dep_of ho hdep 5 (by kernel_rfl)) (fun v h => h)
    refine wp_of_K (fun K hK => ?_)
    rw [hds] at hK
    unfold Oper.wp
    simp [execOp, hop, hds, t53, hcP _ _ w hS, go_sem]
    exact hK _ _ ⟨rfl, by simpa using hS, by simp⟩
  | 7, ho =>
    rw [if_pos (want_none (fact ho (by kernel_rfl)))]
    have hop : o.op = .call { callee := .builtin .len, args := #[.tmp 54], argTypes := #[22] } := fact ho (by kernel_rfl)
    have hds : o.dst = some 55 := fact ho (by kernel_rfl)
    have t54 := tv_eq hF 6 54 (.slice po p.length pc) (by kernel_rfl) (dep_of ho hdep 6 (by kernel_rfl)) (fun v h => h)
    refine wp_of_K (fun K hK => ?_)
    rw [hds] at hK
    unfold Oper.wp
    simp [execOp, hop, hds, t54, go_sem]
    exact hK _ _ ⟨rfl, by simpa using hS, by simp⟩
  | 8, ho =>
    rw [if_pos (want_none (fact ho (by kernel_rfl)))]
    have hop : o.op = .slice 22 (.tmp 52) none (some (.tmp 55)) none := fact ho (by kernel_rfl)
    have hds : o.dst = some 56 := fact ho (by kernel_rfl)
    have t52 := tv_eq hF 4 52 (.slice (some ⟨F, 0, none⟩) (p.length + 8) fc) (by kernel_rfl) (dep_of ho hdep 4 (by kernel_rfl)) (fun v h => h)
    have t55 := tv_eq hF 7 55 (.int .i64 (p.length : Int)) (by kernel_rfl) (dep_of ho hdep 7 (by kernel_rfl)) (fun v h => h)
    refine wp_of_K (fun K hK => ?_)
    rw [hds] at hK
    unfold Oper.wp
    simp [execOp, hop, hds, Act.eval, t52, t55, hsl w, Result.andThen, Oper.upon, Act.put]
    exact hK _ _ ⟨rfl, by simpa using hS, by simp⟩
  | 9, ho =>
    rw [if_pos (want_none (fact ho (by kernel_rfl)))]
    have hop : o.op = .call { callee := .value (.func 12), args := #[.tmp 51, .tmp 56], argTypes := #[30, 22] } := fact ho (by kernel_rfl)
    have hds : o.dst = some 57 := fact ho (by kernel_rfl)
    have t51 := tv_eq hF 3 51 (.pointer (some ⟨g, 0, none⟩)) (by kernel_rfl) (dep_of ho hdep 3 (by kernel_rfl)) (fun v h => h)
    have t56 := tv_eq hF 8 56 (.slice (some ⟨F, 0, none⟩) p.length fc) (by kernel_rfl) (dep_of ho hdep 8 (by kernel_rfl)) (fun v h => h)
    refine wp_of_K (fun K hK => ?_)
    rw [hds] at hK
    unfold Oper.wp
    simp [execOp, hop, hds, t51, t56, go_sem]
    have hfa0 := hfa rfl
    subst hfa0
    refine (hc12 fb w hS).mono ?_
    rintro e w' ⟨rfl, hS'⟩
    exact hK _ _ ⟨⟨rfl, rfl⟩, by simpa using hS', by simpa using V15_stab p n kk g b F s bA bB fc cA cB pc po (fun h => by cases h) (fun h => h) (fun h => by cases h)⟩
  | 10, ho =>
    rw [if_pos (want_none (fact ho (by kernel_rfl)))]
    have hop : o.op = .move (.tmp 4) := fact ho (by kernel_rfl)
    have hds : o.dst = some 58 := fact ho (by kernel_rfl)
    have t4 := tv_old hF 4 _ h4 (by kernel_rfl)
    refine wp_of_K (fun K hK => ?_)
    rw [hds] at hK
    unfold Oper.wp
    simp [execOp, hop, hds, t4, go_sem]
    exact hK _ _ ⟨rfl, by simpa using hS, by simp⟩
  | 11, ho =>
    rw [if_pos (want_none (fact ho (by kernel_rfl)))]
    have hop : o.op = .move (.tmp 7) := fact ho (by kernel_rfl)
    have hds : o.dst = some 59 := fact ho (by kernel_rfl)
    have t7 := tv_old hF 7 _ h7 (by kernel_rfl)
    refine wp_of_K (fun K hK => ?_)
    rw [hds] at hK
    unfold Oper.wp
    simp [execOp, hop, hds, t7, go_sem]
    exact hK _ _ ⟨rfl, by simpa using hS, by simp⟩
  | 12, ho =>
    rw [if_pos (want_none (fact ho (by kernel_rfl)))]
    have hop : o.op = .indexAddr 35 (.tmp 58) (.tmp 59) := fact ho (by kernel_rfl)
    have hds : o.dst = some 60 := fact ho (by kernel_rfl)
    have t58 := tv_eq hF 10 58 (.slice (some ⟨bB, 0, none⟩) n cB) (by kernel_rfl) (dep_of ho hdep 10 (by kernel_rfl)) (fun v h => h)
    have t59 := tv_eq hF 11 59 (.int .i64 (kk : Int)) (by kernel_rfl) (dep_of ho hdep 11 (by kernel_rfl)) (fun v h => h)
    refine wp_of_K (fun K hK => ?_)
    rw [hds] at hK
    unfold Oper.wp
    simp [execOp, hop, hds, t58, t59, hk0, hk1, go_sem]
    exact hK _ _ ⟨rfl, by simpa using hS, by simp⟩
  | 13, ho =>
    rw [if_pos (want_none (fact ho (by kernel_rfl)))]
    have hop : o.op = .load 33 (.tmp 60) := fact ho (by kernel_rfl)
    have hds : o.dst = some 61 := fact ho (by kernel_rfl)
    have t60 := tv_eq hF 12 60 (.pointer (some ⟨bB, kk, none⟩)) (by kernel_rfl) (dep_of ho hdep 12 (by kernel_rfl)) (fun v h => h)
    refine wp_of_K (fun K hK => ?_)
    rw [hds] at hK
    unfold Oper.wp
    simp [execOp, hop, hds, t60, hcB _ _ w hS, go_sem]
    exact hK _ _ ⟨rfl, by simpa using hS, by simp⟩
  | 14, ho =>
    rw [if_pos (want_none (fact ho (by kernel_rfl)))]
    have hop : o.op = .fieldAddr 37 (.tmp 6) 2 := fact ho (by kernel_rfl)
    have hds : o.dst = some 62 := fact ho (by kernel_rfl)
    have t6 := tv_old hF 6 _ h6 (by kernel_rfl)
    refine wp_of_K (fun K hK => ?_)
    rw [hds] at hK
    unfold Oper.wp
    simp [execOp, hop, hds, t6, go_sem]
    exact hK _ _ ⟨rfl, by simpa using hS, by simp⟩
  | 15, ho =>
    rw [if_pos (want_none (fact ho (by kernel_rfl)))]
    have hop : o.op = .load 22 (.tmp 62) := fact ho (by kernel_rfl)
    have hds : o.dst = some 63 := fact ho (by kernel_rfl)
    have t62 := tv_eq hF 14 62 (.pointer (some ⟨s, 2, none⟩)) (by kernel_rfl) (dep_of ho hdep 14 (by kernel_rfl)) (fun v h => h)
    refine wp_of_K (fun K hK => ?_)
    rw [hds] at hK
    unfold Oper.wp
    simp [execOp, hop, hds, t62, hcP _ _ w hS, go_sem]
    exact hK _ _ ⟨rfl, by simpa using hS, by simp⟩
  | 16, ho =>
    rw [if_pos (want_none (fact ho (by kernel_rfl)))]
    have hop : o.op = .call { callee := .value (.func 13), args := #[.tmp 61, .tmp 63], argTypes := #[33, 22] } := fact ho (by kernel_rfl)
    have hds : o.dst = some 64 := fact ho (by kernel_rfl)
    have t61 := tv_eq hF 13 61 (.pointer (some ⟨b, 0, none⟩)) (by kernel_rfl) (dep_of ho hdep 13 (by kernel_rfl)) (fun v h => h)
    have t63 := tv_eq hF 15 63 (.slice po p.length pc) (by kernel_rfl) (dep_of ho hdep 15 (by kernel_rfl)) (fun v h => h)
    refine wp_of_K (fun K hK => ?_)
    rw [hds] at hK
    unfold Oper.wp
    simp [execOp, hop, hds, t61, t63, go_sem]
    have hfb0 := hfb rfl
    subst hfb0
    refine (hc13 fa w hS).mono ?_
    rintro e w' ⟨rfl, hS'⟩
    exact hK _ _ ⟨⟨rfl, rfl⟩, by simpa using hS', by simpa using V15_stab p n kk g b F s bA bB fc cA cB pc po (fun h => h) (fun h => by cases h) (fun _ h => by cases h)⟩
  | 17, ho =>
    rw [if_pos (want_none (fact ho (by kernel_rfl)))]
    have hop : o.op = .binOp .neq 38 (.tmp 57) (.tmp 64) 38 := fact ho (by kernel_rfl)
    have hds : o.dst = some 65 := fact ho (by kernel_rfl)
    have t57 := tv_eq hF 9 57 (.int .i64 0) (by kernel_rfl) (dep_of ho hdep 9 (by kernel_rfl)) (fun v h => h.1)
    obtain ⟨_, _, _, q9⟩ := tv_dep hF 9 57 (by kernel_rfl) (dep_of ho hdep 9 (by kernel_rfl))
    have t64 := tv_eq hF 16 64 (.int .i64 0) (by kernel_rfl) (dep_of ho hdep 16 (by kernel_rfl)) (fun v h => h.1)
    obtain ⟨_, _, _, q16⟩ := tv_dep hF 16 64 (by kernel_rfl) (dep_of ho hdep 16 (by kernel_rfl))
    refine wp_of_K (fun K hK => ?_)
    rw [hds] at hK
    unfold Oper.wp
    simp [execOp, hop, hds, t57, t64, go_sem]
    exact hK _ _ ⟨⟨rfl, by simpa using q9, by simpa using q16⟩, by simpa using hS, by simp⟩
  | 18, ho =>
    rw [if_pos (want_none (fact ho (by kernel_rfl)))]
    have hop : o.op = .move (.tmp 65) := fact ho (by kernel_rfl)
    have hds : o.dst = some 66 := fact ho (by kernel_rfl)
    have t65 := tv_eq hF 17 65 (.bool false) (by kernel_rfl) (dep_of ho hdep 17 (by kernel_rfl)) (fun v h => h.1)
    obtain ⟨_, _, _, q17⟩ := tv_dep hF 17 65 (by kernel_rfl) (dep_of ho hdep 17 (by kernel_rfl))
    refine wp_of_K (fun K hK => ?_)
    rw [hds] at hK
    unfold Oper.wp
    simp [execOp, hop, hds, t65, go_sem]
    exact hK _ _ ⟨⟨rfl, by simpa using q17.1, by simpa using q17.2⟩, by simpa using hS, by simp⟩
  | 19, ho =>
    have hy := yv_dep hF 18 66 false (by kernel_rfl) (dep_of ho hdep 18 (by kernel_rfl)) (fun v h => h.1)
    have hgd : o.guard = some (18, false) := fact ho (by kernel_rfl)
    rw [if_pos (by rw [want_some hgd hy]; rfl)]
    obtain ⟨_, _, _, hfa1, hfb1⟩ := tv_dep hF 18 66 (by kernel_rfl) (dep_of ho hdep 18 (by kernel_rfl))
    subst hfa1 hfb1
    have hop : o.op = .move (.tmp 8) := fact ho (by kernel_rfl)
    have hds : o.dst = some 67 := fact ho (by kernel_rfl)
    have t8 := tv_old hF 8 _ h8 (by kernel_rfl)
    refine wp_of_K (fun K hK => ?_)
    rw [hds] at hK
    unfold Oper.wp
    simp [execOp, hop, hds, t8, go_sem]
    exact hK _ _ ⟨rfl, by simpa using hS, by simp⟩
  | 20, ho =>
    have hy := yv_dep hF 18 66 false (by kernel_rfl) (dep_of ho hdep 18 (by kernel_rfl)) (fun v h => h.1)
    have hgd : o.guard = some (18, false) := fact ho (by kernel_rfl)
    rw [if_pos (by rw [want_some hgd hy]; rfl)]
    obtain ⟨_, _, _, hfa1, hfb1⟩ := tv_dep hF 18 66 (by kernel_rfl) (dep_of ho hdep 18 (by kernel_rfl))
    subst hfa1 hfb1
    have hop : o.op = .fieldAddr 37 (.tmp 6) 2 := fact ho (by kernel_rfl)
    have hds : o.dst = some 68 := fact ho (by kernel_rfl)
    have t6 := tv_old hF 6 _ h6 (by kernel_rfl)
    refine wp_of_K (fun K hK => ?_)
    rw [hds] at hK
    unfold Oper.wp
    simp [execOp, hop, hds, t6, go_sem]
    exact hK _ _ ⟨rfl, by simpa using hS, by simp⟩
  | 21, ho =>
    have hy := yv_dep hF 18 66 false (by kernel_rfl) (dep_of ho hdep 18 (by kernel_rfl)) (fun v h => h.1)
    have hgd : o.guard = some (18, false) := fact ho (by kernel_rfl)
    rw [if_pos (by rw [want_some hgd hy]; rfl)]
    obtain ⟨_, _, _, hfa1, hfb1⟩ := tv_dep hF 18 66 (by kernel_rfl) (dep_of ho hdep 18 (by kernel_rfl))
    subst hfa1 hfb1
    have hop : o.op = .load 22 (.tmp 68) := fact ho (by kernel_rfl)
    have hds : o.dst = some 69 := fact ho (by kernel_rfl)
    have t68 := tv_eq hF 20 68 (.pointer (some ⟨s, 2, none⟩)) (by kernel_rfl) (dep_of ho hdep 20 (by kernel_rfl)) (fun v h => h)
    refine wp_of_K (fun K hK => ?_)
    rw [hds] at hK
    unfold Oper.wp
    simp [execOp, hop, hds, t68, hcP _ _ w hS, go_sem]
    exact hK _ _ ⟨rfl, by simpa using hS, by simp⟩
  | 22, ho =>
    have hy := yv_dep hF 18 66 false (by kernel_rfl) (dep_of ho hdep 18 (by kernel_rfl)) (fun v h => h.1)
    have hgd : o.guard = some (18, false) := fact ho (by kernel_rfl)
    rw [if_pos (by rw [want_some hgd hy]; rfl)]
    obtain ⟨_, _, _, hfa1, hfb1⟩ := tv_dep hF 18 66 (by kernel_rfl) (dep_of ho hdep 18 (by kernel_rfl))
    subst hfa1 hfb1
    have hop : o.op = .call { callee := .value (.func 5), args := #[.tmp 69], argTypes := #[22] } := fact ho (by kernel_rfl)
    have hds : o.dst = some 70 := fact ho (by kernel_rfl)
    have t69 := tv_eq hF 21 69 (.slice po p.length pc) (by kernel_rfl) (dep_of ho hdep 21 (by kernel_rfl)) (fun v h => h)
    refine wp_of_K (fun K hK => ?_)
    rw [hds] at hK
    unfold Oper.wp
    simp [execOp, hop, hds, t69, go_sem]
    refine (hc5 w hS).mono ?_
    rintro e w' ⟨x, rfl, hb', hy'⟩
    exact hK _ _ ⟨⟨hy', by simp, by simp⟩, by simpa using hSb _ _ w w' hS hb', by simpa using V15_stab p n kk g b F s bA bB fc cA cB pc po (fun h => h) (fun h => h) (fun _ _ => hb')⟩
  | 23, ho =>
    have hy := yv_dep hF 18 66 false (by kernel_rfl) (dep_of ho hdep 18 (by kernel_rfl)) (fun v h => h.1)
    have hgd : o.guard = some (18, false) := fact ho (by kernel_rfl)
    rw [if_pos (by rw [want_some hgd hy]; rfl)]
    obtain ⟨_, _, _, hfa1, hfb1⟩ := tv_dep hF 18 66 (by kernel_rfl) (dep_of ho hdep 18 (by kernel_rfl))
    subst hfa1 hfb1
    have hop : o.op = .call { callee := .value (.func 8), args := #[.tmp 67, .tmp 70], argTypes := #[22, 22] } := fact ho (by kernel_rfl)
    have hds : o.dst = some 71 := fact ho (by kernel_rfl)
    have t67 := tv_eq hF 19 67 (.slice (some ⟨F, 0, none⟩) (p.length + 8) fc) (by kernel_rfl) (dep_of ho hdep 19 (by kernel_rfl)) (fun v h => h)
    obtain ⟨x70, t70, y70⟩ := tv_dep hF 22 70 (by kernel_rfl) (dep_of ho hdep 22 (by kernel_rfl))
    refine wp_of_K (fun K hK => ?_)
    rw [hds] at hK
    unfold Oper.wp
    simp [execOp, hop, hds, t67, t70, go_sem]
    refine (hc8 w _ hS y70.1).mono ?_
    rintro e w' ⟨rfl, hb'⟩
    exact hK _ _ ⟨rfl, by simpa using hSb _ _ w w' hS hb', by simpa using V15_stab p n kk g b F s bA bB fc cA cB pc po (fun h => h) (fun h => h) (fun _ _ => hb')⟩
  | 24, ho =>
    have hy := yv_dep hF 18 66 false (by kernel_rfl) (dep_of ho hdep 18 (by kernel_rfl)) (fun v h => h.1)
    have hgd : o.guard = some (18, false) := fact ho (by kernel_rfl)
    rw [if_pos (by rw [want_some hgd hy]; rfl)]
    obtain ⟨_, _, _, hfa1, hfb1⟩ := tv_dep hF 18 66 (by kernel_rfl) (dep_of ho hdep 18 (by kernel_rfl))
    subst hfa1 hfb1
    have hop : o.op = .unOp .not 4 (.tmp 71) := fact ho (by kernel_rfl)
    have hds : o.dst = some 72 := fact ho (by kernel_rfl)
    have t71 := tv_eq hF 23 71 (.bool true) (by kernel_rfl) (dep_of ho hdep 23 (by kernel_rfl)) (fun v h => h)
    refine wp_of_K (fun K hK => ?_)
    rw [hds] at hK
    unfold Oper.wp
    simp [execOp, hop, hds, t71, go_sem]
    exact hK _ _ ⟨rfl, by simpa using hS, by simp⟩
  | 25, ho =>
    rw [if_pos (want_none (fact ho (by kernel_rfl)))]
    have hop : o.op = .pick (.tmp 66) (.const (.bool true)) (.tmp 72) := fact ho (by kernel_rfl)
    have hds : o.dst = some 73 := fact ho (by kernel_rfl)
    have t66 := tv_eq hF 18 66 (.bool false) (by kernel_rfl) (dep_of ho hdep 18 (by kernel_rfl)) (fun v h => h.1)
    have t72 := tv_eq hF 24 72 (.bool false) (by kernel_rfl) (dep_of ho hdep 24 (by kernel_rfl)) (fun v h => h)
    refine wp_of_K (fun K hK => ?_)
    rw [hds] at hK
    unfold Oper.wp
    simp [execOp, hop, hds, t66, t72, go_sem]
    exact hK _ _ ⟨rfl, by simpa using hS, by simp⟩
  | n + 26, ho =>
    exfalso
    have h1 : n + 26 < reg15.size := (Array.getElem?_eq_some_iff.1 ho).1
    rw [show reg15.size = 26 from by kernel_rfl] at h1
    omega
set_option maxRecDepth 100000 in
theorem put15 (X : Nat → Value) (v0 v1 v2 v3 v4 v5 v6 v7 v8 v9 v10 v11 v12 v13 v14 v15 v16 v17 v18 v19 v20 v21 v22 v23 v24 v25 v26 v27 v28 v29 v30 v31 v32 v33 v34 v35 v36 v37 v38 v39 v40 v41 v42 v43 v44 v45 v46 v47 v48 v49 v50 v51 v52 v53 v54 v55 v56 v57 v58 v59 v60 v61 v62 v63 v64 v65 v66 v67 v68 v69 v70 v71 v72 v73 v74 v75 v76 v77 v78 v79 v80 v81 v82 v83 v84 v85 v86 v87 v88 v89 v90 v91 v92 v93 v94 v95 v96 v97 v98 v99 v100 v101 v102 v103 v104 v105 v106 v107 v108 v109 v110 v111 v112 v113 v114 v115 v116 v117 v118 v119 v120 v121 v122 v123 v124 v125 v126 v127 v128 v129 v130 v131 v132 v133 v134 v135 v136 v137 v138 v139 v140 v141 v142 v143 v144 v145 v146 v147 v148 v149 v150 v151 v152 v153 v154 v155 v156 v157 v158 v159 v160 v161 v162 v163 v164 v165 v166 v167 v168 v169 v170 v171 v172 v173 v174 v175 v176 v177 : Value) : putN reg15 X ⟨#[v0, v1, v2, v3, v4, v5, v6, v7, v8, v9, v10, v11, v12, v13, v14, v15, v16, v17, v18, v19, v20, v21, v22, v23, v24, v25, v26, v27, v28, v29, v30, v31, v32, v33, v34, v35, v36, v37, v38, v39, v40, v41, v42, v43, v44, v45, v46, v47, v48, v49, v50, v51, v52, v53, v54, v55, v56, v57, v58, v59, v60, v61, v62, v63, v64, v65, v66, v67, v68, v69, v70, v71, v72, v73, v74, v75, v76, v77, v78, v79, v80, v81, v82, v83, v84, v85, v86, v87, v88, v89, v90, v91, v92, v93, v94, v95, v96, v97, v98, v99, v100, v101, v102, v103, v104, v105, v106, v107, v108, v109, v110, v111, v112, v113, v114, v115, v116, v117, v118, v119, v120, v121, v122, v123, v124, v125, v126, v127, v128, v129, v130, v131, v132, v133, v134, v135, v136, v137, v138, v139, v140, v141, v142, v143, v144, v145, v146, v147, v148, v149, v150, v151, v152, v153, v154, v155, v156, v157, v158, v159, v160, v161, v162, v163, v164, v165, v166, v167, v168, v169, v170, v171, v172, v173, v174, v175, v176, v177], []⟩ reg15.size = ⟨#[v0, v1, v2, v3, v4, v5, v6, v7, v8, v9, v10, v11, v12, v13, v14, v15, v16, v17, v18, v19, v20, v21, v22, v23, v24, v25, v26, v27, v28, v29, v30, v31, v32, v33, v34, v35, v36, v37, v38, v39, v40, v41, v42, v43, v44, v45, v46, v47, X 0, X 1, X 2, X 3, X 4, X 5, X 6, X 7, X 8, X 9, X 10, X 11, X 12, X 13, X 14, X 15, X 16, X 17, X 18, X 19, X 20, X 21, X 22, X 23, X 24, X 25, v74, v75, v76, v77, v78, v79, v80, v81, v82, v83, v84, v85, v86, v87, v88, v89, v90, v91, v92, v93, v94, v95, v96, v97, v98, v99, v100, v101, v102, v103, v104, v105, v106, v107, v108, v109, v110, v111, v112, v113, v114, v115, v116, v117, v118, v119, v120, v121, v122, v123, v124, v125, v126, v127, v128, v129, v130, v131, v132, v133, v134, v135, v136, v137, v138, v139, v140, v141, v142, v143, v144, v145, v146, v147, v148, v149, v150, v151, v152, v153, v154, v155, v156, v157, v158, v159, v160, v161, v162, v163, v164, v165, v166, v167, v168, v169, v170, v171, v172, v173, v174, v175, v176, v177], []⟩ := by kernel_rfl
end Go.Proofs.YtkppejaigodgiacDoor.Hash
