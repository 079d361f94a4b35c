/- JournalReplays: parts of bytes, sums. -/
import Derived.Test.YtfimaflglnemdaaDoorJrC
namespace Go.Proofs.YtfimaflglnemdaaDoor
open Go.RowKit
def slB (v : Value) (lo hi mx : Option Value) : Sem Value := Instr.slice 23 v lo hi mx
theorem toSlB (v : Value) (lo hi mx : Option Value) : Instr.slice 23 v lo hi mx = slB v lo hi mx := rfl
theorem elemB : Tryd.prog.elem 23 = 5 := by kernel_rfl
theorem uB : Tryd.prog.underlying 23 = some (.slice (Tryd.prog.elem 23)) := by kernel_rfl
theorem size5 : (Tryd.prog.info? 5).map (·.size) = some 1 := by kernel_rfl
theorem run_size1 {P : Program} {e : TypeId} (w : World) (h1 : (P.info? e).map (·.size) = some 1) : (sizeOf e).run P w = .ok 1 w := by
  cases hq : P.info? e with
  | none => simp [hq] at h1
  | some i => simp [hq] at h1; simp [sizeOf, typeInfo, hq, h1]
/-- What a part is. -/
theorem bl_sliced {W : World} {oa : Option Addr} {cap : Nat} {l : List Nat} (h : Bl W (.slice oa l.length cap) l) (a b : Nat) (hab : a ≤ b) (hb : b ≤ l.length) : ∃ o', sliced oa a b cap 1 = .slice o' (b - a) (cap - a) ∧ Bl W (.slice o' (b - a) (cap - a)) ((l.take b).drop a) := by
  obtain ⟨oa', cap', e, h2, h3, h4, h5⟩ := h.cells
  injection e with e1 e2 e3
  subst e1 e3
  have hl : ((l.take b).drop a).length = b - a := by rw [List.length_drop, List.length_take]; omega
  have hby : Byt ((l.take b).drop a) := fun x hx => h4 x (List.mem_of_mem_take (List.mem_of_mem_drop hx))
  refine ⟨_, rfl, ?_⟩
  refine ⟨_, cap - a, by rw [hl], by omega, by omega, hby, fun j u hu => ?_⟩
  have hj : j < b - a := by have := (List.getElem?_eq_some_iff.1 hu).1; rwa [bs_len, hl] at this
  obtain ⟨g, o, rfl, hz, hc⟩ := h5 (by omega)
  rw [bs_get _ _ (by omega)] at hu
  injection hu with hu
  refine ⟨g, o + a, ?_, hz, ?_⟩
  · rw [if_neg (by omega), Option.map_some, Go.WideShapes.add_plain, Nat.mul_one]
  · rw [show o + a + j = o + (a + j) by omega, hc (a + j) (by omega), ← hu]
    congr 3
    simp only [List.getD]
    rw [List.getElem?_drop, List.getElem?_take, if_pos (by omega)]
theorem cut_lh {W : World} {oa : Option Addr} {cap : Nat} {l : List Nat} (h : Bl W (.slice oa l.length cap) l) (a b : Nat) (hab : a ≤ b) (hb : b ≤ l.length) : ∃ o', (∀ W', (slB (.slice oa l.length cap) (some (.int .i64 (a : Int))) (some (.int .i64 (b : Int))) none).run Tryd.prog W' = .ok (.slice o' (b - a) (cap - a)) W') ∧ Bl W (.slice o' (b - a) (cap - a)) ((l.take b).drop a) := by
  obtain ⟨_, _, e, h2, _⟩ := h.cells
  injection e with _ _ e
  subst e
  obtain ⟨o', e1, e2⟩ := bl_sliced h a b hab hb
  refine ⟨o', fun W' => ?_, e2⟩
  have := run_slice_lh (P := Tryd.prog) W' 23 oa l.length cap uB .i64 .i64 (a : Int) (b : Int) (by omega) (by omega) (by omega)
  unfold slB
  rw [this, elemB, run_size1 W' size5]
  simp only [Result.andThen, Int.toNat_natCast]
  rw [e1]
theorem cut_l {W : World} {oa : Option Addr} {cap : Nat} {l : List Nat} (h : Bl W (.slice oa l.length cap) l) (a : Nat) (ha : a ≤ l.length) : ∃ o', (∀ W', (slB (.slice oa l.length cap) (some (.int .i64 (a : Int))) none none).run Tryd.prog W' = .ok (.slice o' (l.length - a) (cap - a)) W') ∧ Bl W (.slice o' (l.length - a) (cap - a)) (l.drop a) := by
  obtain ⟨o', e1, e2⟩ := bl_sliced h a l.length ha (Nat.le_refl _)
  rw [List.take_length] at e2
  refine ⟨o', fun W' => ?_, e2⟩
  have := run_slice_l (P := Tryd.prog) W' 23 oa l.length cap uB .i64 (a : Int) (by omega) (by omega)
  unfold slB
  rw [this, elemB, run_size1 W' size5]
  simp only [Result.andThen, Int.toNat_natCast]
  rw [e1]
theorem cut_h {W : World} {oa : Option Addr} {cap : Nat} {l : List Nat} (h : Bl W (.slice oa l.length cap) l) (b : Nat) (hb : b ≤ l.length) : ∃ o', (∀ W', (slB (.slice oa l.length cap) none (some (.int .i64 (b : Int))) none).run Tryd.prog W' = .ok (.slice o' b cap) W') ∧ Bl W (.slice o' b cap) (l.take b) := by
  obtain ⟨_, _, e, h2, _⟩ := h.cells
  injection e with _ _ e
  subst e
  obtain ⟨o', e1, e2⟩ := bl_sliced h 0 b (by omega) hb
  rw [List.drop_zero] at e2
  refine ⟨o', fun W' => ?_, e2⟩
  have := run_slice_h (P := Tryd.prog) W' 23 oa l.length cap uB .i64 (b : Int) (by omega) (by omega)
  unfold slB
  rw [this, elemB, run_size1 W' size5]
  simp only [Result.andThen, Int.toNat_natCast]
  rw [e1]
  rfl
theorem Bl.form {W : World} {v : Value} {l : List Nat} (h : Bl W v l) : ∃ oa cap, v = .slice oa l.length cap := by
  obtain ⟨oa, cap, e, _⟩ := h
  exact ⟨oa, cap, e⟩
theorem Bl.drew {W : World} {v : Value} {l : List Nat} (h : Bl W v l) (k : Nat) : Bl (W.drewN k) v l := h.below ⟨rfl, rfl, rfl, Nat.le_refl _, fun _ _ => rfl⟩
theorem beq_int (x y : Nat) : ((x : Int) == (y : Int)) = decide (x = y) := by
  by_cases h : x = y
  · subst h; simp
  · have : ¬ ((x : Int) = (y : Int)) := by omega
    simp [h, this]
open JM in
attribute [local go_sem ↓] toSlB in
set_option maxRecDepth 100000 in
/-- Is the sum of bytes the one with which others begin? -/
theorem sum_any (d s : Value) (a b : List Nat) (W : World) (hd : Bl W d a) (hs : Bl W s b) (h4 : 4 ≤ b.length) (hl : a.length ≤ 281474976710656) (ht : Tc W) :
    Calls Tryd.prog 82 #[d, s] W fun e w' => e = .returned (.bool (decide (crcN a = le (b.take 4)))) ∧ ∃ k, w' = W.drewN k := by
  obtain ⟨oa, ca, rfl⟩ := hd.form
  obtain ⟨ob, cb, rfl⟩ := hs.form
  obtain ⟨o4, r4, s4⟩ := cut_h hs 4 h4
  obtain ⟨-, -, -, -, -, hba, -⟩ := hd.cells
  have C1 : Hid (∀ k, Calls Tryd.prog 73 #[.slice oa a.length ca] (W.drewN k) fun e w' => e = .returned (.int .u32 ((crcN a : Nat) : Int)) ∧ w' = W.drewN k) := fun k => crc_any a hba hl _ _ (hd.drew k) ⟨ht.sz, ht.t⟩
  have C2 : Hid (∀ k, Calls Tryd.prog 78 #[.slice o4 4 cb] (W.drewN k) fun e w' => e = .returned (.int .u64 (le (b.take 4) : Int)) ∧ w' = W.drewN k) := fun k => read_any _ (b.take 4) _ (s4.drew k) (by rw [List.length_take]; omega)
  have hcl := crc_lt32 a hba
  have r4' : ∀ k, (slB (.slice ob b.length cb) none (some (.int .i64 4)) none).run Tryd.prog (W.drewN k) = .ok (.slice o4 4 cb) (W.drewN k) := fun k => r4 _
  generalize le (b.take 4) = y at *
  generalize crcN a = x at *
  clear hd hs r4 s4 ht hl hba
  go_enter Tryd.func82, Tryd.ntmps82
  go_wp2_with fail
  go_quiet ((first | (go_at_call 73; exact Calls.quiet_of_same (C1.out _)) | (go_at_call 78; exact Calls.quiet_of_same (C2.out _))))
  go_wp2
  go_ret
  exact ⟨by rw [beq_int]; rfl, nq, rfl⟩
end Go.Proofs.YtfimaflglnemdaaDoor
