/- Recipes: the room; in. -/
import Derived.Test.YtcggaiplepekdaaRcC
namespace Go.Proofs.Ytcggaiplepekdaa
open Go.RowKit
def slO (v : Value) (lo hi mx : Option Value) : Sem Value := Instr.slice 22 v lo hi mx
theorem toSlO (v : Value) (lo hi mx : Option Value) : Instr.slice 22 v lo hi mx = slO v lo hi mx := rfl
set_option maxRecDepth 100000 in
theorem run_slO (w : World) (oa : Option Addr) (n c h : Nat) (hh : h ≤ c) : (slO (.slice oa n c) none (some (.int .i64 (h : Int))) none).run Try.prog w = .ok (.slice oa h c) w := by
  have := run_slice_h (P := Try.prog) w 22 oa n c Try.underlying22 .i64 (h : Int) (by omega) (by omega)
  obtain ⟨i0, hi0, -, -, -⟩ := info_parts infoO
  have e : ∀ s, oa.map (fun a => a.add (0 * s)) = oa := fun s => by
    rw [Nat.zero_mul]
    cases oa with
    | none => rfl
    | some a => obtain ⟨b, o, s⟩ := a; rfl
  have el : Try.prog.elem 22 = 39 := by kernel_rfl
  have hs : (sizeOf 39).run Try.prog w = .ok i0.size w := by simp [sizeOf, typeInfo, hi0]
  unfold slO
  rw [this, el, hs]
  simp only [Result.andThen, sliced, Int.toNat_natCast, e, Nat.sub_zero, ite_self]
def slI (v : Value) (lo hi mx : Option Value) : Sem Value := Instr.slice 23 v lo hi mx
theorem toSlI (v : Value) (lo hi mx : Option Value) : Instr.slice 23 v lo hi mx = slI v lo hi mx := rfl
set_option maxRecDepth 100000 in
theorem run_slI (w : World) (oa : Option Addr) (n c h : Nat) (hh : h ≤ c) : (slI (.slice oa n c) none (some (.int .i64 (h : Int))) none).run Try.prog w = .ok (.slice oa h c) w := by
  have := run_slice_h (P := Try.prog) w 23 oa n c Try.underlying23 .i64 (h : Int) (by omega) (by omega)
  obtain ⟨i0, hi0, -, -, -⟩ := info_parts infoI
  have e : ∀ s, oa.map (fun a => a.add (0 * s)) = oa := fun s => by
    rw [Nat.zero_mul]
    cases oa with
    | none => rfl
    | some a => obtain ⟨b, o, s⟩ := a; rfl
  have el : Try.prog.elem 23 = 42 := by kernel_rfl
  have hs : (sizeOf 42).run Try.prog w = .ok i0.size w := by simp [sizeOf, typeInfo, hi0]
  unfold slI
  rw [this, el, hs]
  simp only [Result.andThen, sliced, Int.toNat_natCast, e, Nat.sub_zero, ite_self]
def slS (v : Value) (lo hi mx : Option Value) : Sem Value := Instr.slice 24 v lo hi mx
theorem toSlS (v : Value) (lo hi mx : Option Value) : Instr.slice 24 v lo hi mx = slS v lo hi mx := rfl
set_option maxRecDepth 100000 in
theorem run_slS (w : World) (oa : Option Addr) (n c h : Nat) (hh : h ≤ c) : (slS (.slice oa n c) none (some (.int .i64 (h : Int))) none).run Try.prog w = .ok (.slice oa h c) w := by
  have := run_slice_h (P := Try.prog) w 24 oa n c Try.underlying24 .i64 (h : Int) (by omega) (by omega)
  obtain ⟨i0, hi0, -, -, -⟩ := info_parts infoS
  have e : ∀ s, oa.map (fun a => a.add (0 * s)) = oa := fun s => by
    rw [Nat.zero_mul]
    cases oa with
    | none => rfl
    | some a => obtain ⟨b, o, s⟩ := a; rfl
  have el : Try.prog.elem 24 = 9 := by kernel_rfl
  have hs : (sizeOf 9).run Try.prog w = .ok i0.size w := by simp [sizeOf, typeInfo, hi0]
  unfold slS
  rw [this, el, hs]
  simp only [Result.andThen, sliced, Int.toNat_natCast, e, Nat.sub_zero, ite_self]
def slP (v : Value) (lo hi mx : Option Value) : Sem Value := Instr.slice 25 v lo hi mx
theorem toSlP (v : Value) (lo hi mx : Option Value) : Instr.slice 25 v lo hi mx = slP v lo hi mx := rfl
set_option maxRecDepth 100000 in
theorem run_slP (w : World) (oa : Option Addr) (n c h : Nat) (hh : h ≤ c) : (slP (.slice oa n c) none (some (.int .i64 (h : Int))) none).run Try.prog w = .ok (.slice oa h c) w := by
  have := run_slice_h (P := Try.prog) w 25 oa n c Try.underlying25 .i64 (h : Int) (by omega) (by omega)
  obtain ⟨i0, hi0, -, -, -⟩ := info_parts infoP
  have e : ∀ s, oa.map (fun a => a.add (0 * s)) = oa := fun s => by
    rw [Nat.zero_mul]
    cases oa with
    | none => rfl
    | some a => obtain ⟨b, o, s⟩ := a; rfl
  have el : Try.prog.elem 25 = 44 := by kernel_rfl
  have hs : (sizeOf 44).run Try.prog w = .ok i0.size w := by simp [sizeOf, typeInfo, hi0]
  unfold slP
  rw [this, el, hs]
  simp only [Result.andThen, sliced, Int.toNat_natCast, e, Nat.sub_zero, ite_self]
theorem below_dr {b : Nat} {W w : World} (h : Below b W w) : Below b W w.drew := ⟨h.os, h.tape, h.output, h.size, h.block⟩
def rmV (o n s a e l : Value) : Array Value := #[o, n, s, a, e, l]
theorem results_R {fn : Func} {p : Tmp} (h : fn.results = #[.cell p 27]) (tmps : Array Value) (w : World) (g : Nat) (C : Array Value) (hC : C.size = 7)
    (hp : tmps.getD p undef = .pointer (some ⟨g, 0, none⟩)) (hg : w.heap[g]? = some (.cells C 27 (0, 0))) :
    (results fn tmps).run Try.prog w = .ok (.agg C) w := by
  have hp' : tmps[p]?.getD undef = .pointer (some ⟨g, 0, none⟩) := by simpa using hp
  simp [results, h, hp', asAddr, run_loadVar_row w g 27 27 C (0, 0) _ hg Try.underlying27 rfl (by rw [sizeR, hC])]
section
attribute [local go_sem ↓] toSlO toSlI toSlS toSlP
set_option maxRecDepth 100000 in
set_option maxHeartbeats 3200000 in
theorem in_any (W : World) (rb : Nat) (xo xn xs xa xe : Option Addr) (lo ln ls la le co cn cs ca ce : Nat) (l : Value) (hr : W.heap[rb]? = some (.cells (rmV (.slice xo (lo + 1) co) (.slice xn (ln + 1) cn) (.slice xs (ls + 1) cs) (.slice xa (la + 1) ca) (.slice xe (le + 1) ce) l) 30 (0, 0))) (hc : lo ≤ co ∧ ln ≤ cn ∧ ls ≤ cs ∧ la ≤ ca ∧ le ≤ ce) (hm : lo ≤ 10000000 ∧ ln ≤ 10000000 ∧ ls ≤ 10000000 ∧ la ≤ 10000000 ∧ le ≤ 10000000) (ro rn rs ra re : Value) (sys bld : S) :
    Calls Try.prog 11 #[.pointer (some ⟨rb, 0, none⟩), .agg (rV ro rn rs sys bld ra re)] W fun en w' => en = .returned (.agg (rV (.slice xo lo co) (.slice xn ln cn) (.slice xs ls cs) sys bld (.slice xa la ca) (.slice xe le ce))) ∧ Below W.heap.size W w' := by
  have hrb : rb < W.heap.size := (Array.getElem?_eq_some_iff.1 hr).1
  have f : ∀ X Y : Obj, ((W.alloc X).alloc Y).heap[rb]? = some (.cells (rmV (.slice xo (lo + 1) co) (.slice xn (ln + 1) cn) (.slice xs (ls + 1) cs) (.slice xa (la + 1) ca) (.slice xe (le + 1) ce) l) 30 (0, 0)) := fun X Y => ((below2 W X Y).block rb hrb).trans hr
  obtain ⟨N0, hN0⟩ : ∃ N, lo + 1 = N := ⟨_, rfl⟩
  obtain ⟨N1, hN1⟩ : ∃ N, ln + 1 = N := ⟨_, rfl⟩
  obtain ⟨N2, hN2⟩ : ∃ N, ls + 1 = N := ⟨_, rfl⟩
  obtain ⟨N3, hN3⟩ : ∃ N, la + 1 = N := ⟨_, rfl⟩
  obtain ⟨N4, hN4⟩ : ∃ N, le + 1 = N := ⟨_, rfl⟩
  rw [hN0, hN1, hN2, hN3, hN4] at f
  have d0 : ∀ X Y : Obj, ((W.alloc X).alloc Y).cell? ⟨rb, 0, none⟩ = some (.slice xo N0 co) := fun X Y => c1 (f X Y) rfl
  have w0 : IntKind.i64.wrap ((N0 : Int) - 1) = (lo : Int) := by rw [IntKind.wrap_i64]; omega
  have s0 := fun w => run_slO w xo N0 co lo (by omega)
  have d1 : ∀ X Y : Obj, ((W.alloc X).alloc Y).cell? ⟨rb, 1, none⟩ = some (.slice xn N1 cn) := fun X Y => c1 (f X Y) rfl
  have w1 : IntKind.i64.wrap ((N1 : Int) - 1) = (ln : Int) := by rw [IntKind.wrap_i64]; omega
  have s1 := fun w => run_slI w xn N1 cn ln (by omega)
  have d2 : ∀ X Y : Obj, ((W.alloc X).alloc Y).cell? ⟨rb, 2, none⟩ = some (.slice xs N2 cs) := fun X Y => c1 (f X Y) rfl
  have w2 : IntKind.i64.wrap ((N2 : Int) - 1) = (ls : Int) := by rw [IntKind.wrap_i64]; omega
  have s2 := fun w => run_slS w xs N2 cs ls (by omega)
  have d3 : ∀ X Y : Obj, ((W.alloc X).alloc Y).cell? ⟨rb, 3, none⟩ = some (.slice xa N3 ca) := fun X Y => c1 (f X Y) rfl
  have w3 : IntKind.i64.wrap ((N3 : Int) - 1) = (la : Int) := by rw [IntKind.wrap_i64]; omega
  have s3 := fun w => run_slS w xa N3 ca la (by omega)
  have d4 : ∀ X Y : Obj, ((W.alloc X).alloc Y).cell? ⟨rb, 4, none⟩ = some (.slice xe N4 ce) := fun X Y => c1 (f X Y) rfl
  have w4 : IntKind.i64.wrap ((N4 : Int) - 1) = (le : Int) := by rw [IntKind.wrap_i64]; omega
  have s4 := fun w => run_slP w xe N4 ce le (by omega)
  clear f hN0 hN1 hN2 hN3 hN4 hrb hr hc hm
  unfold rV
  go_enter Try.func11, Try.ntmps11
  go_wp2_with fail
  go_region
  go_wp2_with fail
  go_region
  go_wp2_with fail
  go_region
  go_wp2_with fail
  go_region
  go_wp2_with fail
  go_region
  go_wp2_with fail
  refine bodyPost_ret (results_R rfl _ _ (W.heap.size + 1) _ rfl rfl (row2n _ _ _)) rfl ?_
  exact ⟨rfl, by repeat (first | exact below2 _ _ _ | refine below_dr ?_)⟩
end
end Go.Proofs.Ytcggaiplepekdaa
