/- JournalReplays: a record, by tails. -/
import Derived.Test.YtfimaflglnemdaaDoorJrG
import Derived.Deep.Cut
import Derived.Deep.RegionHeld3
namespace Go.Proofs.YtfimaflglnemdaaDoor
open Go.RowKit
def headRf : Code → Option Nat
  | .region id _ _ => some id
  | .seq a _ => headRf a
  | .scope c => headRf c
  | .block _ c => headRf c
  | .loop c => headRf c
  | _ => none
def fromRf (n : Nat) : Code → Option (Bool × Code)
  | .seq a b => if headRf a = some n then some (false, .seq a b) else match fromRf n a with
    | some (false, c) => some (false, .seq c b)
    | some (true, c) => some (true, c)
    | none => fromRf n b
  | .scope c => fromRf n c
  | .block _ c => (fromRf n c).map fun p => (true, p.2)
  | .loop c => (fromRf n c).map fun p => (true, p.2)
  | .cond _ a b => match fromRf n a with
    | some p => some (true, p.2)
    | none => (fromRf n b).map fun p => (true, p.2)
  | _ => none
noncomputable def tlG (f : Func) (k : Nat) : Code := (((f.body.bind (fromRf k)).map (·.2)).getD .skip)
/-- All but one block is as it was. -/
structure But (g : Nat) (W w : World) : Prop where
  os : w.os = W.os
  tape : w.tape = W.tape
  output : w.output = W.output
  size : W.heap.size ≤ w.heap.size
  block : ∀ k, k < W.heap.size → k ≠ g → w.heap[k]? = W.heap[k]?
theorem But.below {g : Nat} {W w w' : World} (h : But g W w) (hb : Below w.heap.size w w') : But g W w' :=
  ⟨hb.os.trans h.os, hb.tape.trans h.tape, hb.output.trans h.output, Nat.le_trans h.size hb.size, fun k hk hn => (hb.block k (Nat.lt_of_lt_of_le hk h.size)).trans (h.block k hk hn)⟩
theorem But.set {g : Nat} {W w : World} (h : But g W w) (i : Nat) (v : Value) : But g W (w.setCell ⟨g, i, none⟩ v) :=
  ⟨h.os, h.tape, h.output, by simpa using h.size, fun k hk hn => (heap_setCell_other w ⟨g, i, none⟩ k v hn).trans (h.block k hk hn)⟩
theorem But.refl (g : Nat) (W : World) : But g W W := ⟨rfl, rfl, rfl, Nat.le_refl _, fun _ _ _ => rfl⟩
theorem But.trans {g : Nat} {a b c : World} (h : But g a b) (k : But g b c) : But g a c :=
  ⟨k.os.trans h.os, k.tape.trans h.tape, k.output.trans h.output, Nat.le_trans h.size k.size, fun i hi hn => (k.block i (Nat.lt_of_lt_of_le hi h.size) hn).trans (h.block i hi hn)⟩
/-- A reader. -/
def rdA (dv : Value) (pos frm : Nat) (t0 t1 t2 t3 t4 t5 : Value) : Array Value := #[dv, .int .i64 (pos : Int), .int .i64 (frm : Int), t0, t1, t2, t3, t4, t5]
def zRc : Array Value := #[.int .u8 0, .int .u64 0, .int .i64 0, .slice none 0 0]
theorem sizeRc : (Tryd.prog.info? 142).map (·.size) = some 4 := by kernel_rfl
def ldRc (p : Value) : Sem Value := Instr.loadAt 142 p
theorem toLdRc (p : Value) : Instr.loadAt 142 p = ldRc p := rfl
def stRc (p v : Value) : Sem Unit := Instr.storeAt 142 p v
theorem toStRc (p v : Value) : Instr.storeAt 142 p v = stRc p v := rfl
theorem ld_Rc (w : World) (g : Nat) (c : Array Value) (hc : c.size = 4) (h : w.heap[g]? = some (.cells c 142 (0, 0))) : (ldRc (.pointer (some ⟨g, 0, none⟩))).run Tryd.prog w = .ok (.agg c) w := by
  have hr : w.rangeAt g 0 c.toList := by
    have := World.rangeAt_of_block h 0 4
    rwa [show c.extract 0 (0 + 4) = c by rw [← hc, Nat.zero_add]; simp] at this
  have := run_loadAt_mid (P := Tryd.prog) w g 0 142 c.toList _ hr Tryd.underlying142 rfl (by rw [sizeRc]; simp [hc])
  simpa [ldRc] using this
theorem st_Rc (w : World) (g : Nat) (C D : Array Value) (hC : C.size = 4) (hD : D.size = 4) (h1 : D.all (·.oneCell') = true) (hg : w.heap[g]? = some (.cells C 142 (0, 0))) : (stRc (.pointer (some ⟨g, 0, none⟩)) (.agg D)).run Tryd.prog w = .ok () (w.setRow g D) := by
  unfold stRc
  simp only [Instr.storeAt, Instr.sureAddr, Sem.run_bind, Sem.run_pure, Result.andThen_ok, run_storeVar_row w g 142 142 C D hg (by rw [sizeRc, hD]) (by rw [hD, hC]) h1]
theorem results_Rc {fn : Func} {p : Tmp} (h : fn.results = #[.cell p 142]) (tmps : Array Value) (w : World) (g : Nat) (C : Array Value) (hC : C.size = 4)
    (hp : tmps.getD p undef = .pointer (some ⟨g, 0, none⟩)) (hg : w.heap[g]? = some (.cells C 142 (0, 0))) :
    (results fn tmps).run Tryd.prog w = .ok (.agg C) w := by
  have hp' : tmps[p]?.getD undef = .pointer (some ⟨g, 0, none⟩) := by simpa using hp
  simp [results, h, hp', asAddr, run_loadVar_row w g 142 142 C (0, 0) _ hg Tryd.underlying142 rfl (by rw [sizeRc, hC])]
attribute [local go_sem ↓] toLdRc toStRc in
set_option maxRecDepth 100000 in
set_option maxHeartbeats 3200000 in
/-- The record is there: on behind it. -/
theorem rec10 (W w : World) {g r0 bx pos k n len cR cB : Nat} {rv dv t0 t1 t2 t3 t4 t5 : Value} {oR oB : Option Addr} {rs : List Nat} {v2 v3 v7 v8 v9 v10 v11 v12 v13 v14 v15 v16 v17 v18 v19 v20 v21 v22 v23 v24 v25 v26 v27 v28 v29 v30 v31 v32 v33 v34 v35 v36 v37 v38 v39 v40 v41 v42 v43 v44 v45 v46 v47 v48 v49 v50 v51 v52 v53 v54 v55 v56 v57 v58 v59 v60 v61 v62 v63 v64 v65 v66 v67 v68 v69 v70 v71 v72 v73 v74 v75 v76 v77 v78 v79 v80 v81 v82 v83 v84 v85 v86 v87 v88 v89 v90 v91 v92 v93 v94 v95 v96 v97 v98 v99 v100 : Value}
    (hg : w.heap[g]? = some (.cells (rdA dv pos pos t0 t1 t2 t3 t4 t5) 130 (0, 0))) (hx : w.heap[bx]? = some (.cells (rcA k n len (.slice oB len cB)) 142 (0, 0))) (hr : w.heap[r0]? = some (.cells zRc 142 (0, 0)))
    (n1 : g ≠ bx) (n2 : g ≠ r0) (hb : But g W w) (hW : W.heap.size ≤ r0) (hlim : pos + 22 + len ≤ 1000000000000000) (Qp : Ending → World → Prop) (hq : ∀ e w', e = .returned (.agg (rcA k n len (.slice oB len cB))) ∧ But g W w' ∧ (∀ j, j < w.heap.size → j ≠ g → j ≠ r0 → w'.heap[j]? = w.heap[j]?) ∧ w'.heap[g]? = some (.cells (rdA dv (pos + 22 + len) pos t0 t1 t2 t3 t4 t5) 130 (0, 0)) → Qp e w') :
    Code.wp Tryd.prog (tlG Tryd.f77 10) (bodyPost Tryd.prog Tryd.f77 Qp) ⟨#[.pointer (some ⟨g, 0, none⟩), rv, v2, v3, .pointer (some ⟨r0, 0, none⟩), .slice oR rs.length cR, .pointer (some ⟨bx, 0, none⟩), v7, v8, v9, v10, v11, v12, v13, v14, v15, v16, v17, v18, v19, v20, v21, v22, v23, v24, v25, v26, v27, v28, v29, v30, v31, v32, v33, v34, v35, v36, v37, v38, v39, v40, v41, v42, v43, v44, v45, v46, v47, v48, v49, v50, v51, v52, v53, v54, v55, v56, v57, v58, v59, v60, v61, v62, v63, v64, v65, v66, v67, v68, v69, v70, v71, v72, v73, v74, v75, v76, v77, v78, v79, v80, v81, v82, v83, v84, v85, v86, v87, v88, v89, v90, v91, v92, v93, v94, v95, v96, v97, v98, v99, v100], []⟩ w := by
  have c1 : w.cell? ⟨g, 1, none⟩ = some (.int .i64 (pos : Int)) := (cell_of_row _ _ _ _ _ _ hg).trans rfl
  have c2 : w.cell? ⟨bx, 2, none⟩ = some (.int .i64 (len : Int)) := (cell_of_row _ _ _ _ _ _ hx).trans rfl
  have f1 : w.frozen? ⟨g, 1, none⟩ = false := frozen_of_row _ _ _ _ _ hg
  obtain ⟨X, hX⟩ : ∃ X, (w.setCell ⟨g, 1, none⟩ (.int .i64 ((pos : Int) + (22 + (len : Int))))).drew = X := ⟨_, rfl⟩
  have xg : X.heap[g]? = some (.cells (rdA dv (pos + 22 + len) pos t0 t1 t2 t3 t4 t5) 130 (0, 0)) := by
    rw [← hX]
    refine (heap_setCell_same w g 1 _ _ _ hg).trans ?_
    simp only [rdA]
    congr 3
    rw [show ((pos + 22 + len : Nat) : Int) = (pos : Int) + (22 + (len : Int)) by omega]
    rfl
  have xo : ∀ j, j ≠ g → X.heap[j]? = w.heap[j]? := fun j hj => by rw [← hX]; exact heap_setCell_other w ⟨g, 1, none⟩ j _ hj
  have xb : But g W X := by rw [← hX]; exact hb.set 1 _ |>.below ⟨rfl, rfl, rfl, Nat.le_refl _, fun _ _ => rfl⟩
  have hL := ld_Rc X bx _ rfl ((xo bx n1.symm).trans hx)
  have xr := (xo r0 n2.symm).trans hr
  have hS := st_Rc X r0 zRc (rcA k n len (.slice oB len cB)) rfl rfl (by simp [rcA, Value.oneCell']) xr
  have HX : Hid (X.heap[g]? = some (.cells (rdA dv (pos + 22 + len) pos t0 t1 t2 t3 t4 t5) 130 (0, 0)) ∧ (∀ j, j ≠ g → X.heap[j]? = w.heap[j]?) ∧ But g W X ∧ X.heap[r0]? = some (.cells zRc 142 (0, 0))) := ⟨xg, xo, xb, xr⟩
  clear xg xo xb xr hg hx hr hb
  conv => arg 2; whnf
  go_wp2_with fail
  go_region
  clear hX
  go_wp2_with fail
  obtain ⟨xg, xo, xb, xr⟩ := HX.out
  refine bodyPost_ret (results_Rc rfl _ _ r0 _ rfl rfl (setRow_heap X r0 _ _ _ _ xr)) rfl ?_
  refine hq _ _ ⟨rfl, ⟨xb.os, xb.tape, xb.output, by rw [size_setRow]; exact xb.size, fun j hj hn => ?_⟩, fun j hj hn hr => ?_, ?_⟩
  · rw [setRow_other X r0 j _ (by omega)]; exact xb.block j hj hn
  · rw [setRow_other X r0 j _ hr]; exact xo j hn
  · rw [setRow_other X r0 g _ n2]; exact xg
end Go.Proofs.YtfimaflglnemdaaDoor
