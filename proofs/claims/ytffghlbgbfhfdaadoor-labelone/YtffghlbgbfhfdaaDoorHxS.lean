/- The drawn region of UnHex's round: each operation by its value. Made by a program from a table of operations. -/
import Derived.Test.YtffghlbgbfhfdaaDoorHxU
import Derived.Test.YtffghlbgbfhfdaaDoorHxR
namespace Go.Proofs.YtffghlbgbfhfdaaDoor.Hx
open Go.RowKit
noncomputable def reg11 : Array Oper := ((Tryd.f25.body.bind (findR 11)).getD #[])
theorem okR11 : okR reg11 50 = true := by kernel_rfl
theorem reg11_size : reg11.size = 17 := by kernel_rfl
def V11 (s : ByteArray) (O n k c d x y X Y : Nat) : Nat → Value
  | 0 => .slice (some ⟨O, 0, none⟩) n n
  | 1 => .int .i64 (k : Int)
  | 2 => .string s
  | 3 => .int .i64 (k : Int)
  | 4 => .int .i64 (2 * (k : Int))
  | 5 => .int .u8 (c : Int)
  | 6 => .int .u8 (x : Int)
  | 7 => .int .u8 (Y : Int)
  | 8 => .string s
  | 9 => .int .i64 (k : Int)
  | 10 => .int .i64 (2 * (k : Int))
  | 11 => .int .i64 (2 * (k : Int) + 1)
  | 12 => .int .u8 (d : Int)
  | 13 => .int .u8 (y : Int)
  | 14 => .int .u8 (X : Int)
  | 15 => .pointer (some ⟨O, k, none⟩)
  | _ => undef
set_option maxHeartbeats 1000000 in
theorem step11 (a0 : Act) (s : ByteArray) (O G n k c d x y X Y : Nat) (S : Bool → World → Prop) (Q : Exit → Act → World → Prop) (h7 : a0.tmps[7]? = some (.slice (some ⟨O, 0, none⟩) n n)) (h8 : a0.tmps[8]? = some (.int .i64 (k : Int))) (h0 : a0.tmps[0]? = some (.string s)) (h5 : a0.tmps[5]? = some (.pointer (some ⟨G, 0, none⟩)))
    (hm2 : IntKind.i64.wrap (2 * (k : Int)) = 2 * (k : Int)) (hm3 : IntKind.i64.wrap (2 * (k : Int) + 1) = 2 * (k : Int) + 1)
    (hix0 : ∀ W : World, (Instr.index 9 (.string s) (.int .i64 (2 * (k : Int)))).run Tryd.prog W = .ok (.int .u8 (c : Int)) W)
    (hix1 : ∀ W : World, (Instr.index 9 (.string s) (.int .i64 (2 * (k : Int) + 1))).run Tryd.prog W = .ok (.int .u8 (d : Int)) W)
    (hsh : IntKind.u8.wrap ((x : Int) * 16) = (Y : Int)) (hor : bits BinOp.or IntKind.u8 (Y : Int) (y : Int) = (X : Int)) (hk0 : (0 : Int) ≤ (k : Int)) (hk1 : (k : Int) < (n : Int))
    (hCX : ∀ b w, S b w → Calls Tryd.prog 38 #[.pointer (some ⟨G, 0, none⟩), .int .u8 (c : Int)] w fun e w' => e = .returned (.int .u8 (x : Int)) ∧ S b w')
    (hCY : ∀ b w, S b w → Calls Tryd.prog 38 #[.pointer (some ⟨G, 0, none⟩), .int .u8 (d : Int)] w fun e w' => e = .returned (.int .u8 (y : Int)) ∧ S b w')
    (hce : ∀ w, S false w → ∃ v, w.cell? ⟨O, k, none⟩ = some v) (hfz : ∀ w, S false w → w.frozen? ⟨O, k, none⟩ = false) (hst : ∀ w, S false w → S true (w.setCell ⟨O, k, none⟩ (.int .u8 (X : Int))))
    (i : Nat) (o : Oper) (a : Act) (w : World) (listed : Array Bool) (b : Bool) (ho : reg11[i]? = some o) (hF : RFr reg11 a0 (V11 s O n k c d x y X Y) listed a) (hS : S b w) (hb : i = 16 → b = false) (hdep : ∀ e ∈ o.after, Region.binds .any e = true → listed.getD e.on false = true) :
      if Region.wanted o (yielded reg11 a.tmps) = true then Oper.wp Tryd.prog o a w (fun a' w' => a' = a.put o.dst (V11 s O n k c d x y X Y i) ∧ S (b || decide (i = 16)) w') Q else V11 s O n k c d x y X Y i = undef ∧ i ≠ 16 := by
  match i, ho with
  | 0, ho =>
    rw [if_pos (want_none (fact ho (by kernel_rfl)))]
    have hop : o.op = .move (.tmp 7) := fact ho (by kernel_rfl)
    have hds : o.dst = some 32 := fact ho (by kernel_rfl)
    have t7 := tm_old hF 7 _ h7 (by kernel_rfl)
    unfold Oper.wp
    simp [execOp, hop, hds, t7, go_sem, V11, hS]
  | 1, ho =>
    rw [if_pos (want_none (fact ho (by kernel_rfl)))]
    have hop : o.op = .move (.tmp 8) := fact ho (by kernel_rfl)
    have hds : o.dst = some 33 := fact ho (by kernel_rfl)
    have t8 := tm_old hF 8 _ h8 (by kernel_rfl)
    unfold Oper.wp
    simp [execOp, hop, hds, t8, go_sem, V11, hS]
  | 2, ho =>
    rw [if_pos (want_none (fact ho (by kernel_rfl)))]
    have hop : o.op = .move (.tmp 0) := fact ho (by kernel_rfl)
    have hds : o.dst = some 34 := fact ho (by kernel_rfl)
    have t0 := tm_old hF 0 _ h0 (by kernel_rfl)
    unfold Oper.wp
    simp [execOp, hop, hds, t0, go_sem, V11, hS]
  | 3, ho =>
    rw [if_pos (want_none (fact ho (by kernel_rfl)))]
    have hop : o.op = .move (.tmp 8) := fact ho (by kernel_rfl)
    have hds : o.dst = some 35 := fact ho (by kernel_rfl)
    have t8 := tm_old hF 8 _ h8 (by kernel_rfl)
    unfold Oper.wp
    simp [execOp, hop, hds, t8, go_sem, V11, hS]
  | 4, ho =>
    rw [if_pos (want_none (fact ho (by kernel_rfl)))]
    have hop : o.op = .binOp .mul 3 (.const (.int .i64 2)) (.tmp 35) 3 := fact ho (by kernel_rfl)
    have hds : o.dst = some 36 := fact ho (by kernel_rfl)
    have t35 := tm_dep hF 3 35 (by kernel_rfl) (dep_of ho hdep 3 (by kernel_rfl))
    simp only [V11] at t35
    unfold Oper.wp
    simp [execOp, hop, hds, t35, go_sem, V11, hS, hm2]
  | 5, ho =>
    rw [if_pos (want_none (fact ho (by kernel_rfl)))]
    have hop : o.op = .index 9 (.tmp 34) (.tmp 36) := fact ho (by kernel_rfl)
    have hds : o.dst = some 37 := fact ho (by kernel_rfl)
    have t34 := tm_dep hF 2 34 (by kernel_rfl) (dep_of ho hdep 2 (by kernel_rfl))
    simp only [V11] at t34
    have t36 := tm_dep hF 4 36 (by kernel_rfl) (dep_of ho hdep 4 (by kernel_rfl))
    simp only [V11] at t36
    unfold Oper.wp
    simp [execOp, hop, hds, Act.eval, t34, t36, hix0, Oper.upon, Act.put, V11, hS]
  | 6, ho =>
    rw [if_pos (want_none (fact ho (by kernel_rfl)))]
    have hop : o.op = .call { callee := .value (.func 38), args := #[.tmp 5, .tmp 37], argTypes := #[82, 5] } := fact ho (by kernel_rfl)
    have hds : o.dst = some 38 := fact ho (by kernel_rfl)
    have t5 := tm_old hF 5 _ h5 (by kernel_rfl)
    have t37 := tm_dep hF 5 37 (by kernel_rfl) (dep_of ho hdep 5 (by kernel_rfl))
    simp only [V11] at t37
    unfold Oper.wp
    simp [execOp, hop, hds, t5, t37, go_sem, V11]
    refine (hCX b w hS).mono ?_
    rintro e w' ⟨rfl, hS'⟩
    exact ⟨rfl, hS'⟩
  | 7, ho =>
    rw [if_pos (want_none (fact ho (by kernel_rfl)))]
    have hop : o.op = .binOp .shl 5 (.tmp 38) (.const (.int .u64 4)) 65 := fact ho (by kernel_rfl)
    have hds : o.dst = some 39 := fact ho (by kernel_rfl)
    have t38 := tm_dep hF 6 38 (by kernel_rfl) (dep_of ho hdep 6 (by kernel_rfl))
    simp only [V11] at t38
    unfold Oper.wp
    simp [execOp, hop, hds, t38, go_sem, V11, hS, hsh]
  | 8, ho =>
    rw [if_pos (want_none (fact ho (by kernel_rfl)))]
    have hop : o.op = .move (.tmp 0) := fact ho (by kernel_rfl)
    have hds : o.dst = some 40 := fact ho (by kernel_rfl)
    have t0 := tm_old hF 0 _ h0 (by kernel_rfl)
    unfold Oper.wp
    simp [execOp, hop, hds, t0, go_sem, V11, hS]
  | 9, ho =>
    rw [if_pos (want_none (fact ho (by kernel_rfl)))]
    have hop : o.op = .move (.tmp 8) := fact ho (by kernel_rfl)
    have hds : o.dst = some 41 := fact ho (by kernel_rfl)
    have t8 := tm_old hF 8 _ h8 (by kernel_rfl)
    unfold Oper.wp
    simp [execOp, hop, hds, t8, go_sem, V11, hS]
  | 10, ho =>
    rw [if_pos (want_none (fact ho (by kernel_rfl)))]
    have hop : o.op = .binOp .mul 3 (.const (.int .i64 2)) (.tmp 41) 3 := fact ho (by kernel_rfl)
    have hds : o.dst = some 42 := fact ho (by kernel_rfl)
    have t41 := tm_dep hF 9 41 (by kernel_rfl) (dep_of ho hdep 9 (by kernel_rfl))
    simp only [V11] at t41
    unfold Oper.wp
    simp [execOp, hop, hds, t41, go_sem, V11, hS, hm2]
  | 11, ho =>
    rw [if_pos (want_none (fact ho (by kernel_rfl)))]
    have hop : o.op = .binOp .add 3 (.tmp 42) (.const (.int .i64 1)) 3 := fact ho (by kernel_rfl)
    have hds : o.dst = some 43 := fact ho (by kernel_rfl)
    have t42 := tm_dep hF 10 42 (by kernel_rfl) (dep_of ho hdep 10 (by kernel_rfl))
    simp only [V11] at t42
    unfold Oper.wp
    simp [execOp, hop, hds, t42, go_sem, V11, hS, hm3]
  | 12, ho =>
    rw [if_pos (want_none (fact ho (by kernel_rfl)))]
    have hop : o.op = .index 9 (.tmp 40) (.tmp 43) := fact ho (by kernel_rfl)
    have hds : o.dst = some 44 := fact ho (by kernel_rfl)
    have t40 := tm_dep hF 8 40 (by kernel_rfl) (dep_of ho hdep 8 (by kernel_rfl))
    simp only [V11] at t40
    have t43 := tm_dep hF 11 43 (by kernel_rfl) (dep_of ho hdep 11 (by kernel_rfl))
    simp only [V11] at t43
    unfold Oper.wp
    simp [execOp, hop, hds, Act.eval, t40, t43, hix1, Oper.upon, Act.put, V11, hS]
  | 13, ho =>
    rw [if_pos (want_none (fact ho (by kernel_rfl)))]
    have hop : o.op = .call { callee := .value (.func 38), args := #[.tmp 5, .tmp 44], argTypes := #[82, 5] } := fact ho (by kernel_rfl)
    have hds : o.dst = some 45 := fact ho (by kernel_rfl)
    have t5 := tm_old hF 5 _ h5 (by kernel_rfl)
    have t44 := tm_dep hF 12 44 (by kernel_rfl) (dep_of ho hdep 12 (by kernel_rfl))
    simp only [V11] at t44
    unfold Oper.wp
    simp [execOp, hop, hds, t5, t44, go_sem, V11]
    refine (hCY b w hS).mono ?_
    rintro e w' ⟨rfl, hS'⟩
    exact ⟨rfl, hS'⟩
  | 14, ho =>
    rw [if_pos (want_none (fact ho (by kernel_rfl)))]
    have hop : o.op = .binOp .or 5 (.tmp 39) (.tmp 45) 5 := fact ho (by kernel_rfl)
    have hds : o.dst = some 46 := fact ho (by kernel_rfl)
    have t39 := tm_dep hF 7 39 (by kernel_rfl) (dep_of ho hdep 7 (by kernel_rfl))
    simp only [V11] at t39
    have t45 := tm_dep hF 13 45 (by kernel_rfl) (dep_of ho hdep 13 (by kernel_rfl))
    simp only [V11] at t45
    unfold Oper.wp
    simp [execOp, hop, hds, t39, t45, go_sem, V11, hS, hor]
  | 15, ho =>
    rw [if_pos (want_none (fact ho (by kernel_rfl)))]
    have hop : o.op = .indexAddr 38 (.tmp 32) (.tmp 33) := fact ho (by kernel_rfl)
    have hds : o.dst = some 47 := fact ho (by kernel_rfl)
    have t32 := tm_dep hF 0 32 (by kernel_rfl) (dep_of ho hdep 0 (by kernel_rfl))
    simp only [V11] at t32
    have t33 := tm_dep hF 1 33 (by kernel_rfl) (dep_of ho hdep 1 (by kernel_rfl))
    simp only [V11] at t33
    unfold Oper.wp
    simp [execOp, hop, hds, t32, t33, go_sem, V11, hS, hk0, hk1]
  | 16, ho =>
    rw [if_pos (want_none (fact ho (by kernel_rfl)))]
    have hop : o.op = .store 5 (.tmp 47) (.tmp 46) := fact ho (by kernel_rfl)
    have hds : o.dst = none := fact ho (by kernel_rfl)
    have t47 := tm_dep hF 15 47 (by kernel_rfl) (dep_of ho hdep 15 (by kernel_rfl))
    simp only [V11] at t47
    have t46 := tm_dep hF 14 46 (by kernel_rfl) (dep_of ho hdep 14 (by kernel_rfl))
    simp only [V11] at t46
    obtain rfl := hb rfl
    obtain ⟨v, hv⟩ := hce w hS
    have hf := hfz w hS
    have hq := hst w hS
    unfold Oper.wp
    simp [execOp, hop, hds, t47, t46, go_sem, hv, hf, hq]
  | n + 17, ho =>
    exfalso
    have h1 : n + 17 < reg11.size := (Array.getElem?_eq_some_iff.1 ho).1
    rw [reg11_size] at h1
    omega
theorem put11 (s : ByteArray) (O n k c d x y X Y : Nat) (v0 v1 v2 v3 v4 v5 v6 v7 v8 v9 v10 v11 v12 v13 v14 v15 v16 v17 v18 v19 v20 v21 v22 v23 v24 v25 v26 v27 v28 v29 v30 v31 v32 v33 v34 v35 v36 v37 v38 v39 v40 v41 v42 v43 v44 v45 v46 v47 v48 v49 : Value) : putN reg11 (V11 s O n k c d x y X Y) ⟨#[v0, v1, v2, v3, v4, v5, v6, v7, v8, v9, v10, v11, v12, v13, v14, v15, v16, v17, v18, v19, v20, v21, v22, v23, v24, v25, v26, v27, v28, v29, v30, v31, v32, v33, v34, v35, v36, v37, v38, v39, v40, v41, v42, v43, v44, v45, v46, v47, v48, v49], []⟩ reg11.size = ⟨#[v0, v1, v2, v3, v4, v5, v6, v7, v8, v9, v10, v11, v12, v13, v14, v15, v16, v17, v18, v19, v20, v21, v22, v23, v24, v25, v26, v27, v28, v29, v30, v31, .slice (some ⟨O, 0, none⟩) n n, .int .i64 (k : Int), .string s, .int .i64 (k : Int), .int .i64 (2 * (k : Int)), .int .u8 (c : Int), .int .u8 (x : Int), .int .u8 (Y : Int), .string s, .int .i64 (k : Int), .int .i64 (2 * (k : Int)), .int .i64 (2 * (k : Int) + 1), .int .u8 (d : Int), .int .u8 (y : Int), .int .u8 (X : Int), .pointer (some ⟨O, k, none⟩), v48, v49], []⟩ := by kernel_rfl
end Go.Proofs.YtffghlbgbfhfdaaDoor.Hx
