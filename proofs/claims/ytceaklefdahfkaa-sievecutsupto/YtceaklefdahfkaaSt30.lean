/- SieveCuts: the operations of its region 30, each by its value. -/
import Derived.Test.YtceaklefdahfkaaSt14
namespace Go.Proofs.Ytceaklefdahfkaa
open Go.RowKit
noncomputable def reg30 : Array Oper := ((Try.f8.body.bind (findR 30)).getD #[])
theorem okR30 : okR reg30 265 = true := by kernel_rfl
def V30 (gs gr n h bu offu wl cu : Nat) (s : ByteArray) (mm m1 : Nat) (oo : Option Addr) (ol oc : Nat) : Nat → Value
  | 0 => .pointer (some ⟨gs, 0, none⟩)
  | 1 => .int .i64 (n : Int)
  | 2 => .int .i64 (n : Int)
  | 3 => .bool false
  | 4 => .bool false
  | 5 => .pointer (some ⟨gr, 0, none⟩)
  | 6 => .int .i64 (n : Int)
  | 7 => .int .i64 (n : Int)
  | 8 => .bool false
  | 9 => .bool false
  | 10 => .bool false
  | 11 => .pointer (some ⟨gr, 0, none⟩)
  | 12 => .int .i64 (h : Int)
  | 13 => .pointer (some ⟨gs, 0, none⟩)
  | 14 => .int .i64 (h : Int)
  | 15 => .bool false
  | 16 => .bool false
  | 17 => .bool false
  | 18 => .pointer (some ⟨gr, 0, none⟩)
  | 19 => .int .i64 (h : Int)
  | 20 => .slice (some ⟨bu, offu, none⟩) wl cu
  | 21 => .pointer (some ⟨bu, offu, none⟩)
  | 22 => .string s
  | 23 => .int .i64 (mm : Int)
  | 24 => .int .i64 (m1 : Int)
  | 25 => .bool false
  | 26 => .bool false
  | 27 => .bool false
  | 28 => .slice oo ol oc
  | 29 => .int .i64 (ol : Int)
  | 30 => .pointer (some ⟨gr, 0, none⟩)
  | 31 => .int .i64 (h : Int)
  | 32 => .int .i64 (n : Int)
  | 33 => .int .i64 (n : Int)
  | 34 => .bool false
  | 35 => .bool false
  | _ => undef
set_option maxHeartbeats 1000000 in
theorem step30 (a0 : Act) (gs gr n h bu offu wl cu : Nat) (s : ByteArray) (mm m1 : Nat) (oo : Option Addr) (ol oc : Nat) (S : World → Prop) (Q : Exit → Act → World → Prop) (h22 : a0.tmps[22]? = some (.pointer (some ⟨gs, 0, none⟩))) (h25 : a0.tmps[25]? = some (.int .i64 (n : Int))) (h20 : a0.tmps[20]? = some (.pointer (some ⟨gr, 0, none⟩))) (h11 : a0.tmps[11]? = some (.slice (some ⟨bu, offu, none⟩) wl cu)) (h24 : a0.tmps[24]? = some (.slice oo ol oc))
    (hc31 : ∀ W, S W → Calls Try.prog 31 #[.pointer (some ⟨gs, 0, none⟩)] W fun e w' => e = .returned (.int .i64 (n : Int)) ∧ S w') (hc28 : ∀ W, S W → Calls Try.prog 28 #[.pointer (some ⟨gr, 0, none⟩)] W fun e w' => e = .returned (.int .i64 (n : Int)) ∧ S w') (hc29 : ∀ W, S W → Calls Try.prog 29 #[.pointer (some ⟨gr, 0, none⟩)] W fun e w' => e = .returned (.int .i64 (h : Int)) ∧ S w') (hc32 : ∀ W, S W → Calls Try.prog 32 #[.pointer (some ⟨gs, 0, none⟩)] W fun e w' => e = .returned (.int .i64 (h : Int)) ∧ S w') (hld : ∀ W, S W → (Instr.loadAt 9 (.pointer (some ⟨bu, offu, none⟩))).run Try.prog W = .ok (.string s) W) (hwl : 0 < wl) (hsz : s.size = mm) (hw1 : IntKind.i64.wrap ((mm : Int) - 1) = (m1 : Int)) (hgt : ¬ (m1 < h)) (hadd : IntKind.i64.wrap ((ol : Int) + (h : Int)) = (n : Int))
    (i : Nat) (o : Oper) (a : Act) (w : World) (listed : Array Bool) (ho : reg30[i]? = some o) (hF : RFr reg30 a0 (V30 gs gr n h bu offu wl cu s mm m1 oo ol oc) listed a) (hS : S w) (hdep : ∀ e ∈ o.after, Region.binds .any e = true → listed.getD e.on false = true) :
      if Region.wanted o (yielded reg30 a.tmps) = true then Oper.wp Try.prog o a w (fun a' w' => a' = a.put o.dst (V30 gs gr n h bu offu wl cu s mm m1 oo ol oc i) ∧ S w') Q else V30 gs gr n h bu offu wl cu s mm m1 oo ol oc i = undef := by
  match i, ho with
  | 0, ho =>
    rw [if_pos (want_none (fact ho (by kernel_rfl)))]
    have hop : o.op = .move (.tmp 22) := fact ho (by kernel_rfl)
    have hds : o.dst = some 191 := fact ho (by kernel_rfl)
    have t22 := tm_old hF 22 _ h22 (by kernel_rfl)
    unfold Oper.wp
    simp [execOp, hop, hds, t22, go_sem, V30, hS]
  | 1, ho =>
    rw [if_pos (want_none (fact ho (by kernel_rfl)))]
    have hop : o.op = .call { callee := .value (.func 31), args := #[.tmp 191], argTypes := #[46] } := fact ho (by kernel_rfl)
    have hds : o.dst = some 192 := fact ho (by kernel_rfl)
    have t191 := tm_dep hF 0 191 (by kernel_rfl) (dep_of ho hdep 0 (by kernel_rfl))
    simp only [V30] at t191
    unfold Oper.wp
    simp [execOp, hop, hds, t191, go_sem, V30]
    refine (hc31 w hS).mono ?_
    rintro e w' ⟨rfl, hS'⟩
    exact ⟨rfl, hS'⟩
  | 2, ho =>
    rw [if_pos (want_none (fact ho (by kernel_rfl)))]
    have hop : o.op = .move (.tmp 25) := fact ho (by kernel_rfl)
    have hds : o.dst = some 193 := fact ho (by kernel_rfl)
    have t25 := tm_old hF 25 _ h25 (by kernel_rfl)
    unfold Oper.wp
    simp [execOp, hop, hds, t25, go_sem, V30, hS]
  | 3, ho =>
    rw [if_pos (want_none (fact ho (by kernel_rfl)))]
    have hop : o.op = .binOp .neq 3 (.tmp 192) (.tmp 193) 3 := fact ho (by kernel_rfl)
    have hds : o.dst = some 194 := fact ho (by kernel_rfl)
    have t192 := tm_dep hF 1 192 (by kernel_rfl) (dep_of ho hdep 1 (by kernel_rfl))
    simp only [V30] at t192
    have t193 := tm_dep hF 2 193 (by kernel_rfl) (dep_of ho hdep 2 (by kernel_rfl))
    simp only [V30] at t193
    unfold Oper.wp
    simp [execOp, hop, hds, t192, t193, go_sem, V30, hS]
  | 4, ho =>
    rw [if_pos (want_none (fact ho (by kernel_rfl)))]
    have hop : o.op = .move (.tmp 194) := fact ho (by kernel_rfl)
    have hds : o.dst = some 195 := fact ho (by kernel_rfl)
    have t194 := tm_dep hF 3 194 (by kernel_rfl) (dep_of ho hdep 3 (by kernel_rfl))
    simp only [V30] at t194
    unfold Oper.wp
    simp [execOp, hop, hds, t194, go_sem, V30, hS]
  | 5, ho =>
    have hy := yl_dep hF 4 195 false (by kernel_rfl) (dep_of ho hdep 4 (by kernel_rfl)) rfl
    have hgd : o.guard = some (4, false) := fact ho (by kernel_rfl)
    rw [if_pos (by rw [want_some hgd hy]; rfl)]
    have hop : o.op = .move (.tmp 20) := fact ho (by kernel_rfl)
    have hds : o.dst = some 196 := fact ho (by kernel_rfl)
    have t20 := tm_old hF 20 _ h20 (by kernel_rfl)
    unfold Oper.wp
    simp [execOp, hop, hds, t20, go_sem, V30, hS]
  | 6, ho =>
    have hy := yl_dep hF 4 195 false (by kernel_rfl) (dep_of ho hdep 4 (by kernel_rfl)) rfl
    have hgd : o.guard = some (4, false) := fact ho (by kernel_rfl)
    rw [if_pos (by rw [want_some hgd hy]; rfl)]
    have hop : o.op = .call { callee := .value (.func 28), args := #[.tmp 196], argTypes := #[47] } := fact ho (by kernel_rfl)
    have hds : o.dst = some 197 := fact ho (by kernel_rfl)
    have t196 := tm_dep hF 5 196 (by kernel_rfl) (dep_of ho hdep 5 (by kernel_rfl))
    simp only [V30] at t196
    unfold Oper.wp
    simp [execOp, hop, hds, t196, go_sem, V30]
    refine (hc28 w hS).mono ?_
    rintro e w' ⟨rfl, hS'⟩
    exact ⟨rfl, hS'⟩
  | 7, ho =>
    have hy := yl_dep hF 4 195 false (by kernel_rfl) (dep_of ho hdep 4 (by kernel_rfl)) rfl
    have hgd : o.guard = some (4, false) := fact ho (by kernel_rfl)
    rw [if_pos (by rw [want_some hgd hy]; rfl)]
    have hop : o.op = .move (.tmp 25) := fact ho (by kernel_rfl)
    have hds : o.dst = some 198 := fact ho (by kernel_rfl)
    have t25 := tm_old hF 25 _ h25 (by kernel_rfl)
    unfold Oper.wp
    simp [execOp, hop, hds, t25, go_sem, V30, hS]
  | 8, ho =>
    have hy := yl_dep hF 4 195 false (by kernel_rfl) (dep_of ho hdep 4 (by kernel_rfl)) rfl
    have hgd : o.guard = some (4, false) := fact ho (by kernel_rfl)
    rw [if_pos (by rw [want_some hgd hy]; rfl)]
    have hop : o.op = .binOp .neq 3 (.tmp 197) (.tmp 198) 3 := fact ho (by kernel_rfl)
    have hds : o.dst = some 199 := fact ho (by kernel_rfl)
    have t197 := tm_dep hF 6 197 (by kernel_rfl) (dep_of ho hdep 6 (by kernel_rfl))
    simp only [V30] at t197
    have t198 := tm_dep hF 7 198 (by kernel_rfl) (dep_of ho hdep 7 (by kernel_rfl))
    simp only [V30] at t198
    unfold Oper.wp
    simp [execOp, hop, hds, t197, t198, go_sem, V30, hS]
  | 9, ho =>
    rw [if_pos (want_none (fact ho (by kernel_rfl)))]
    have hop : o.op = .pick (.tmp 195) (.const (.bool true)) (.tmp 199) := fact ho (by kernel_rfl)
    have hds : o.dst = some 200 := fact ho (by kernel_rfl)
    have t195 := tm_dep hF 4 195 (by kernel_rfl) (dep_of ho hdep 4 (by kernel_rfl))
    simp only [V30] at t195
    have t199 := tm_dep hF 8 199 (by kernel_rfl) (dep_of ho hdep 8 (by kernel_rfl))
    simp only [V30] at t199
    unfold Oper.wp
    simp [execOp, hop, hds, t195, t199, go_sem, V30, hS]
  | 10, ho =>
    rw [if_pos (want_none (fact ho (by kernel_rfl)))]
    have hop : o.op = .move (.tmp 200) := fact ho (by kernel_rfl)
    have hds : o.dst = some 201 := fact ho (by kernel_rfl)
    have t200 := tm_dep hF 9 200 (by kernel_rfl) (dep_of ho hdep 9 (by kernel_rfl))
    simp only [V30] at t200
    unfold Oper.wp
    simp [execOp, hop, hds, t200, go_sem, V30, hS]
  | 11, ho =>
    have hy := yl_dep hF 10 201 false (by kernel_rfl) (dep_of ho hdep 10 (by kernel_rfl)) rfl
    have hgd : o.guard = some (10, false) := fact ho (by kernel_rfl)
    rw [if_pos (by rw [want_some hgd hy]; rfl)]
    have hop : o.op = .move (.tmp 20) := fact ho (by kernel_rfl)
    have hds : o.dst = some 202 := fact ho (by kernel_rfl)
    have t20 := tm_old hF 20 _ h20 (by kernel_rfl)
    unfold Oper.wp
    simp [execOp, hop, hds, t20, go_sem, V30, hS]
  | 12, ho =>
    have hy := yl_dep hF 10 201 false (by kernel_rfl) (dep_of ho hdep 10 (by kernel_rfl)) rfl
    have hgd : o.guard = some (10, false) := fact ho (by kernel_rfl)
    rw [if_pos (by rw [want_some hgd hy]; rfl)]
    have hop : o.op = .call { callee := .value (.func 29), args := #[.tmp 202], argTypes := #[47] } := fact ho (by kernel_rfl)
    have hds : o.dst = some 203 := fact ho (by kernel_rfl)
    have t202 := tm_dep hF 11 202 (by kernel_rfl) (dep_of ho hdep 11 (by kernel_rfl))
    simp only [V30] at t202
    unfold Oper.wp
    simp [execOp, hop, hds, t202, go_sem, V30]
    refine (hc29 w hS).mono ?_
    rintro e w' ⟨rfl, hS'⟩
    exact ⟨rfl, hS'⟩
  | 13, ho =>
    have hy := yl_dep hF 10 201 false (by kernel_rfl) (dep_of ho hdep 10 (by kernel_rfl)) rfl
    have hgd : o.guard = some (10, false) := fact ho (by kernel_rfl)
    rw [if_pos (by rw [want_some hgd hy]; rfl)]
    have hop : o.op = .move (.tmp 22) := fact ho (by kernel_rfl)
    have hds : o.dst = some 204 := fact ho (by kernel_rfl)
    have t22 := tm_old hF 22 _ h22 (by kernel_rfl)
    unfold Oper.wp
    simp [execOp, hop, hds, t22, go_sem, V30, hS]
  | 14, ho =>
    have hy := yl_dep hF 10 201 false (by kernel_rfl) (dep_of ho hdep 10 (by kernel_rfl)) rfl
    have hgd : o.guard = some (10, false) := fact ho (by kernel_rfl)
    rw [if_pos (by rw [want_some hgd hy]; rfl)]
    have hop : o.op = .call { callee := .value (.func 32), args := #[.tmp 204], argTypes := #[46] } := fact ho (by kernel_rfl)
    have hds : o.dst = some 205 := fact ho (by kernel_rfl)
    have t204 := tm_dep hF 13 204 (by kernel_rfl) (dep_of ho hdep 13 (by kernel_rfl))
    simp only [V30] at t204
    unfold Oper.wp
    simp [execOp, hop, hds, t204, go_sem, V30]
    refine (hc32 w hS).mono ?_
    rintro e w' ⟨rfl, hS'⟩
    exact ⟨rfl, hS'⟩
  | 15, ho =>
    have hy := yl_dep hF 10 201 false (by kernel_rfl) (dep_of ho hdep 10 (by kernel_rfl)) rfl
    have hgd : o.guard = some (10, false) := fact ho (by kernel_rfl)
    rw [if_pos (by rw [want_some hgd hy]; rfl)]
    have hop : o.op = .binOp .neq 3 (.tmp 203) (.tmp 205) 3 := fact ho (by kernel_rfl)
    have hds : o.dst = some 206 := fact ho (by kernel_rfl)
    have t203 := tm_dep hF 12 203 (by kernel_rfl) (dep_of ho hdep 12 (by kernel_rfl))
    simp only [V30] at t203
    have t205 := tm_dep hF 14 205 (by kernel_rfl) (dep_of ho hdep 14 (by kernel_rfl))
    simp only [V30] at t205
    unfold Oper.wp
    simp [execOp, hop, hds, t203, t205, go_sem, V30, hS]
  | 16, ho =>
    rw [if_pos (want_none (fact ho (by kernel_rfl)))]
    have hop : o.op = .pick (.tmp 201) (.const (.bool true)) (.tmp 206) := fact ho (by kernel_rfl)
    have hds : o.dst = some 207 := fact ho (by kernel_rfl)
    have t201 := tm_dep hF 10 201 (by kernel_rfl) (dep_of ho hdep 10 (by kernel_rfl))
    simp only [V30] at t201
    have t206 := tm_dep hF 15 206 (by kernel_rfl) (dep_of ho hdep 15 (by kernel_rfl))
    simp only [V30] at t206
    unfold Oper.wp
    simp [execOp, hop, hds, t201, t206, go_sem, V30, hS]
  | 17, ho =>
    rw [if_pos (want_none (fact ho (by kernel_rfl)))]
    have hop : o.op = .move (.tmp 207) := fact ho (by kernel_rfl)
    have hds : o.dst = some 208 := fact ho (by kernel_rfl)
    have t207 := tm_dep hF 16 207 (by kernel_rfl) (dep_of ho hdep 16 (by kernel_rfl))
    simp only [V30] at t207
    unfold Oper.wp
    simp [execOp, hop, hds, t207, go_sem, V30, hS]
  | 18, ho =>
    have hy := yl_dep hF 17 208 false (by kernel_rfl) (dep_of ho hdep 17 (by kernel_rfl)) rfl
    have hgd : o.guard = some (17, false) := fact ho (by kernel_rfl)
    rw [if_pos (by rw [want_some hgd hy]; rfl)]
    have hop : o.op = .move (.tmp 20) := fact ho (by kernel_rfl)
    have hds : o.dst = some 209 := fact ho (by kernel_rfl)
    have t20 := tm_old hF 20 _ h20 (by kernel_rfl)
    unfold Oper.wp
    simp [execOp, hop, hds, t20, go_sem, V30, hS]
  | 19, ho =>
    have hy := yl_dep hF 17 208 false (by kernel_rfl) (dep_of ho hdep 17 (by kernel_rfl)) rfl
    have hgd : o.guard = some (17, false) := fact ho (by kernel_rfl)
    rw [if_pos (by rw [want_some hgd hy]; rfl)]
    have hop : o.op = .call { callee := .value (.func 29), args := #[.tmp 209], argTypes := #[47] } := fact ho (by kernel_rfl)
    have hds : o.dst = some 210 := fact ho (by kernel_rfl)
    have t209 := tm_dep hF 18 209 (by kernel_rfl) (dep_of ho hdep 18 (by kernel_rfl))
    simp only [V30] at t209
    unfold Oper.wp
    simp [execOp, hop, hds, t209, go_sem, V30]
    refine (hc29 w hS).mono ?_
    rintro e w' ⟨rfl, hS'⟩
    exact ⟨rfl, hS'⟩
  | 20, ho =>
    have hy := yl_dep hF 17 208 false (by kernel_rfl) (dep_of ho hdep 17 (by kernel_rfl)) rfl
    have hgd : o.guard = some (17, false) := fact ho (by kernel_rfl)
    rw [if_pos (by rw [want_some hgd hy]; rfl)]
    have hop : o.op = .move (.tmp 11) := fact ho (by kernel_rfl)
    have hds : o.dst = some 211 := fact ho (by kernel_rfl)
    have t11 := tm_old hF 11 _ h11 (by kernel_rfl)
    unfold Oper.wp
    simp [execOp, hop, hds, t11, go_sem, V30, hS]
  | 21, ho =>
    have hy := yl_dep hF 17 208 false (by kernel_rfl) (dep_of ho hdep 17 (by kernel_rfl)) rfl
    have hgd : o.guard = some (17, false) := fact ho (by kernel_rfl)
    rw [if_pos (by rw [want_some hgd hy]; rfl)]
    have hop : o.op = .indexAddr 26 (.tmp 211) (.const (.int .i64 0)) := fact ho (by kernel_rfl)
    have hds : o.dst = some 212 := fact ho (by kernel_rfl)
    have t211 := tm_dep hF 20 211 (by kernel_rfl) (dep_of ho hdep 20 (by kernel_rfl))
    simp only [V30] at t211
    unfold Oper.wp
    simp [execOp, hop, hds, t211, hwl, go_sem, V30, hS]
  | 22, ho =>
    have hy := yl_dep hF 17 208 false (by kernel_rfl) (dep_of ho hdep 17 (by kernel_rfl)) rfl
    have hgd : o.guard = some (17, false) := fact ho (by kernel_rfl)
    rw [if_pos (by rw [want_some hgd hy]; rfl)]
    have hop : o.op = .load 9 (.tmp 212) := fact ho (by kernel_rfl)
    have hds : o.dst = some 213 := fact ho (by kernel_rfl)
    have t212 := tm_dep hF 21 212 (by kernel_rfl) (dep_of ho hdep 21 (by kernel_rfl))
    simp only [V30] at t212
    unfold Oper.wp
    simp [execOp, hop, hds, Act.eval, t212, hld w hS, Oper.upon, Act.put, V30, hS]
  | 23, ho =>
    have hy := yl_dep hF 17 208 false (by kernel_rfl) (dep_of ho hdep 17 (by kernel_rfl)) rfl
    have hgd : o.guard = some (17, false) := fact ho (by kernel_rfl)
    rw [if_pos (by rw [want_some hgd hy]; rfl)]
    have hop : o.op = .call { callee := .builtin .len, args := #[.tmp 213], argTypes := #[9] } := fact ho (by kernel_rfl)
    have hds : o.dst = some 214 := fact ho (by kernel_rfl)
    have t213 := tm_dep hF 22 213 (by kernel_rfl) (dep_of ho hdep 22 (by kernel_rfl))
    simp only [V30] at t213
    unfold Oper.wp
    simp [execOp, hop, hds, t213, hsz, go_sem, V30, hS]
  | 24, ho =>
    have hy := yl_dep hF 17 208 false (by kernel_rfl) (dep_of ho hdep 17 (by kernel_rfl)) rfl
    have hgd : o.guard = some (17, false) := fact ho (by kernel_rfl)
    rw [if_pos (by rw [want_some hgd hy]; rfl)]
    have hop : o.op = .binOp .sub 3 (.tmp 214) (.const (.int .i64 1)) 3 := fact ho (by kernel_rfl)
    have hds : o.dst = some 215 := fact ho (by kernel_rfl)
    have t214 := tm_dep hF 23 214 (by kernel_rfl) (dep_of ho hdep 23 (by kernel_rfl))
    simp only [V30] at t214
    unfold Oper.wp
    simp [execOp, hop, hds, t214, hw1, go_sem, V30, hS]
  | 25, ho =>
    have hy := yl_dep hF 17 208 false (by kernel_rfl) (dep_of ho hdep 17 (by kernel_rfl)) rfl
    have hgd : o.guard = some (17, false) := fact ho (by kernel_rfl)
    rw [if_pos (by rw [want_some hgd hy]; rfl)]
    have hop : o.op = .binOp .gtr 3 (.tmp 210) (.tmp 215) 3 := fact ho (by kernel_rfl)
    have hds : o.dst = some 216 := fact ho (by kernel_rfl)
    have t210 := tm_dep hF 19 210 (by kernel_rfl) (dep_of ho hdep 19 (by kernel_rfl))
    simp only [V30] at t210
    have t215 := tm_dep hF 24 215 (by kernel_rfl) (dep_of ho hdep 24 (by kernel_rfl))
    simp only [V30] at t215
    unfold Oper.wp
    simp [execOp, hop, hds, t210, t215, hgt, go_sem, V30, hS]
  | 26, ho =>
    rw [if_pos (want_none (fact ho (by kernel_rfl)))]
    have hop : o.op = .pick (.tmp 208) (.const (.bool true)) (.tmp 216) := fact ho (by kernel_rfl)
    have hds : o.dst = some 217 := fact ho (by kernel_rfl)
    have t208 := tm_dep hF 17 208 (by kernel_rfl) (dep_of ho hdep 17 (by kernel_rfl))
    simp only [V30] at t208
    have t216 := tm_dep hF 25 216 (by kernel_rfl) (dep_of ho hdep 25 (by kernel_rfl))
    simp only [V30] at t216
    unfold Oper.wp
    simp [execOp, hop, hds, t208, t216, go_sem, V30, hS]
  | 27, ho =>
    rw [if_pos (want_none (fact ho (by kernel_rfl)))]
    have hop : o.op = .move (.tmp 217) := fact ho (by kernel_rfl)
    have hds : o.dst = some 218 := fact ho (by kernel_rfl)
    have t217 := tm_dep hF 26 217 (by kernel_rfl) (dep_of ho hdep 26 (by kernel_rfl))
    simp only [V30] at t217
    unfold Oper.wp
    simp [execOp, hop, hds, t217, go_sem, V30, hS]
  | 28, ho =>
    have hy := yl_dep hF 27 218 false (by kernel_rfl) (dep_of ho hdep 27 (by kernel_rfl)) rfl
    have hgd : o.guard = some (27, false) := fact ho (by kernel_rfl)
    rw [if_pos (by rw [want_some hgd hy]; rfl)]
    have hop : o.op = .move (.tmp 24) := fact ho (by kernel_rfl)
    have hds : o.dst = some 219 := fact ho (by kernel_rfl)
    have t24 := tm_old hF 24 _ h24 (by kernel_rfl)
    unfold Oper.wp
    simp [execOp, hop, hds, t24, go_sem, V30, hS]
  | 29, ho =>
    have hy := yl_dep hF 27 218 false (by kernel_rfl) (dep_of ho hdep 27 (by kernel_rfl)) rfl
    have hgd : o.guard = some (27, false) := fact ho (by kernel_rfl)
    rw [if_pos (by rw [want_some hgd hy]; rfl)]
    have hop : o.op = .call { callee := .builtin .len, args := #[.tmp 219], argTypes := #[27] } := fact ho (by kernel_rfl)
    have hds : o.dst = some 220 := fact ho (by kernel_rfl)
    have t219 := tm_dep hF 28 219 (by kernel_rfl) (dep_of ho hdep 28 (by kernel_rfl))
    simp only [V30] at t219
    unfold Oper.wp
    simp [execOp, hop, hds, t219, go_sem, V30, hS]
  | 30, ho =>
    have hy := yl_dep hF 27 218 false (by kernel_rfl) (dep_of ho hdep 27 (by kernel_rfl)) rfl
    have hgd : o.guard = some (27, false) := fact ho (by kernel_rfl)
    rw [if_pos (by rw [want_some hgd hy]; rfl)]
    have hop : o.op = .move (.tmp 20) := fact ho (by kernel_rfl)
    have hds : o.dst = some 221 := fact ho (by kernel_rfl)
    have t20 := tm_old hF 20 _ h20 (by kernel_rfl)
    unfold Oper.wp
    simp [execOp, hop, hds, t20, go_sem, V30, hS]
  | 31, ho =>
    have hy := yl_dep hF 27 218 false (by kernel_rfl) (dep_of ho hdep 27 (by kernel_rfl)) rfl
    have hgd : o.guard = some (27, false) := fact ho (by kernel_rfl)
    rw [if_pos (by rw [want_some hgd hy]; rfl)]
    have hop : o.op = .call { callee := .value (.func 29), args := #[.tmp 221], argTypes := #[47] } := fact ho (by kernel_rfl)
    have hds : o.dst = some 222 := fact ho (by kernel_rfl)
    have t221 := tm_dep hF 30 221 (by kernel_rfl) (dep_of ho hdep 30 (by kernel_rfl))
    simp only [V30] at t221
    unfold Oper.wp
    simp [execOp, hop, hds, t221, go_sem, V30]
    refine (hc29 w hS).mono ?_
    rintro e w' ⟨rfl, hS'⟩
    exact ⟨rfl, hS'⟩
  | 32, ho =>
    have hy := yl_dep hF 27 218 false (by kernel_rfl) (dep_of ho hdep 27 (by kernel_rfl)) rfl
    have hgd : o.guard = some (27, false) := fact ho (by kernel_rfl)
    rw [if_pos (by rw [want_some hgd hy]; rfl)]
    have hop : o.op = .binOp .add 3 (.tmp 220) (.tmp 222) 3 := fact ho (by kernel_rfl)
    have hds : o.dst = some 223 := fact ho (by kernel_rfl)
    have t220 := tm_dep hF 29 220 (by kernel_rfl) (dep_of ho hdep 29 (by kernel_rfl))
    simp only [V30] at t220
    have t222 := tm_dep hF 31 222 (by kernel_rfl) (dep_of ho hdep 31 (by kernel_rfl))
    simp only [V30] at t222
    unfold Oper.wp
    simp [execOp, hop, hds, t220, t222, hadd, go_sem, V30, hS]
  | 33, ho =>
    have hy := yl_dep hF 27 218 false (by kernel_rfl) (dep_of ho hdep 27 (by kernel_rfl)) rfl
    have hgd : o.guard = some (27, false) := fact ho (by kernel_rfl)
    rw [if_pos (by rw [want_some hgd hy]; rfl)]
    have hop : o.op = .move (.tmp 25) := fact ho (by kernel_rfl)
    have hds : o.dst = some 224 := fact ho (by kernel_rfl)
    have t25 := tm_old hF 25 _ h25 (by kernel_rfl)
    unfold Oper.wp
    simp [execOp, hop, hds, t25, go_sem, V30, hS]
  | 34, ho =>
    have hy := yl_dep hF 27 218 false (by kernel_rfl) (dep_of ho hdep 27 (by kernel_rfl)) rfl
    have hgd : o.guard = some (27, false) := fact ho (by kernel_rfl)
    rw [if_pos (by rw [want_some hgd hy]; rfl)]
    have hop : o.op = .binOp .neq 3 (.tmp 223) (.tmp 224) 3 := fact ho (by kernel_rfl)
    have hds : o.dst = some 225 := fact ho (by kernel_rfl)
    have t223 := tm_dep hF 32 223 (by kernel_rfl) (dep_of ho hdep 32 (by kernel_rfl))
    simp only [V30] at t223
    have t224 := tm_dep hF 33 224 (by kernel_rfl) (dep_of ho hdep 33 (by kernel_rfl))
    simp only [V30] at t224
    unfold Oper.wp
    simp [execOp, hop, hds, t223, t224, go_sem, V30, hS]
  | 35, ho =>
    rw [if_pos (want_none (fact ho (by kernel_rfl)))]
    have hop : o.op = .pick (.tmp 218) (.const (.bool true)) (.tmp 225) := fact ho (by kernel_rfl)
    have hds : o.dst = some 226 := fact ho (by kernel_rfl)
    have t218 := tm_dep hF 27 218 (by kernel_rfl) (dep_of ho hdep 27 (by kernel_rfl))
    simp only [V30] at t218
    have t225 := tm_dep hF 34 225 (by kernel_rfl) (dep_of ho hdep 34 (by kernel_rfl))
    simp only [V30] at t225
    unfold Oper.wp
    simp [execOp, hop, hds, t218, t225, go_sem, V30, hS]
  | n + 36, ho =>
    exfalso
    have h1 : n + 36 < reg30.size := (Array.getElem?_eq_some_iff.1 ho).1
    rw [show reg30.size = 36 from by kernel_rfl] at h1
    omega
set_option maxRecDepth 100000 in
theorem put30 (X : Nat → Value) (v0 v1 v2 v3 v4 v5 v6 v7 v8 v9 v10 v11 v12 v13 v14 v15 v16 v17 v18 v19 v20 v21 v22 v23 v24 v25 v26 v27 v28 v29 v30 v31 v32 v33 v34 v35 v36 v37 v38 v39 v40 v41 v42 v43 v44 v45 v46 v47 v48 v49 v50 v51 v52 v53 v54 v55 v56 v57 v58 v59 v60 v61 v62 v63 v64 v65 v66 v67 v68 v69 v70 v71 v72 v73 v74 v75 v76 v77 v78 v79 v80 v81 v82 v83 v84 v85 v86 v87 v88 v89 v90 v91 v92 v93 v94 v95 v96 v97 v98 v99 v100 v101 v102 v103 v104 v105 v106 v107 v108 v109 v110 v111 v112 v113 v114 v115 v116 v117 v118 v119 v120 v121 v122 v123 v124 v125 v126 v127 v128 v129 v130 v131 v132 v133 v134 v135 v136 v137 v138 v139 v140 v141 v142 v143 v144 v145 v146 v147 v148 v149 v150 v151 v152 v153 v154 v155 v156 v157 v158 v159 v160 v161 v162 v163 v164 v165 v166 v167 v168 v169 v170 v171 v172 v173 v174 v175 v176 v177 v178 v179 v180 v181 v182 v183 v184 v185 v186 v187 v188 v189 v190 v191 v192 v193 v194 v195 v196 v197 v198 v199 v200 v201 v202 v203 v204 v205 v206 v207 v208 v209 v210 v211 v212 v213 v214 v215 v216 v217 v218 v219 v220 v221 v222 v223 v224 v225 v226 v227 v228 v229 v230 v231 v232 v233 v234 v235 v236 v237 v238 v239 v240 v241 v242 v243 v244 v245 v246 v247 v248 v249 v250 v251 v252 v253 v254 v255 v256 v257 v258 v259 v260 v261 v262 v263 v264 : Value) : putN reg30 X ⟨#[v0, v1, v2, v3, v4, v5, v6, v7, v8, v9, v10, v11, v12, v13, v14, v15, v16, v17, v18, v19, v20, v21, v22, v23, v24, v25, v26, v27, v28, v29, v30, v31, v32, v33, v34, v35, v36, v37, v38, v39, v40, v41, v42, v43, v44, v45, v46, v47, v48, v49, v50, v51, v52, v53, v54, v55, v56, v57, v58, v59, v60, v61, v62, v63, v64, v65, v66, v67, v68, v69, v70, v71, v72, v73, v74, v75, v76, v77, v78, v79, v80, v81, v82, v83, v84, v85, v86, v87, v88, v89, v90, v91, v92, v93, v94, v95, v96, v97, v98, v99, v100, v101, v102, v103, v104, v105, v106, v107, v108, v109, v110, v111, v112, v113, v114, v115, v116, v117, v118, v119, v120, v121, v122, v123, v124, v125, v126, v127, v128, v129, v130, v131, v132, v133, v134, v135, v136, v137, v138, v139, v140, v141, v142, v143, v144, v145, v146, v147, v148, v149, v150, v151, v152, v153, v154, v155, v156, v157, v158, v159, v160, v161, v162, v163, v164, v165, v166, v167, v168, v169, v170, v171, v172, v173, v174, v175, v176, v177, v178, v179, v180, v181, v182, v183, v184, v185, v186, v187, v188, v189, v190, v191, v192, v193, v194, v195, v196, v197, v198, v199, v200, v201, v202, v203, v204, v205, v206, v207, v208, v209, v210, v211, v212, v213, v214, v215, v216, v217, v218, v219, v220, v221, v222, v223, v224, v225, v226, v227, v228, v229, v230, v231, v232, v233, v234, v235, v236, v237, v238, v239, v240, v241, v242, v243, v244, v245, v246, v247, v248, v249, v250, v251, v252, v253, v254, v255, v256, v257, v258, v259, v260, v261, v262, v263, v264], []⟩ reg30.size = ⟨#[v0, v1, v2, v3, v4, v5, v6, v7, v8, v9, v10, v11, v12, v13, v14, v15, v16, v17, v18, v19, v20, v21, v22, v23, v24, v25, v26, v27, v28, v29, v30, v31, v32, v33, v34, v35, v36, v37, v38, v39, v40, v41, v42, v43, v44, v45, v46, v47, v48, v49, v50, v51, v52, v53, v54, v55, v56, v57, v58, v59, v60, v61, v62, v63, v64, v65, v66, v67, v68, v69, v70, v71, v72, v73, v74, v75, v76, v77, v78, v79, v80, v81, v82, v83, v84, v85, v86, v87, v88, v89, v90, v91, v92, v93, v94, v95, v96, v97, v98, v99, v100, v101, v102, v103, v104, v105, v106, v107, v108, v109, v110, v111, v112, v113, v114, v115, v116, v117, v118, v119, v120, v121, v122, v123, v124, v125, v126, v127, v128, v129, v130, v131, v132, v133, v134, v135, v136, v137, v138, v139, v140, v141, v142, v143, v144, v145, v146, v147, v148, v149, v150, v151, v152, v153, v154, v155, v156, v157, v158, v159, v160, v161, v162, v163, v164, v165, v166, v167, v168, v169, v170, v171, v172, v173, v174, v175, v176, v177, v178, v179, v180, v181, v182, v183, v184, v185, v186, v187, v188, v189, v190, X 0, X 1, X 2, X 3, X 4, X 5, X 6, X 7, X 8, X 9, X 10, X 11, X 12, X 13, X 14, X 15, X 16, X 17, X 18, X 19, X 20, X 21, X 22, X 23, X 24, X 25, X 26, X 27, X 28, X 29, X 30, X 31, X 32, X 33, X 34, X 35, v227, v228, v229, v230, v231, v232, v233, v234, v235, v236, v237, v238, v239, v240, v241, v242, v243, v244, v245, v246, v247, v248, v249, v250, v251, v252, v253, v254, v255, v256, v257, v258, v259, v260, v261, v262, v263, v264], []⟩ := by kernel_rfl
end Go.Proofs.Ytceaklefdahfkaa
