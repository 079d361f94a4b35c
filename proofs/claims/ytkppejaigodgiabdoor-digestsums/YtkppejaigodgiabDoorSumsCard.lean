/- DigestSums: the row and the card. -/
import Derived.Test.YtkppejaigodgiabDoorSums
import Derived.Test.YtkppejaigodgiabDoorTab
namespace Go.Proofs.YtkppejaigodgiabDoor.DSums
open Go.ChangeShapes Go.WideShapes Go.ChangeAt Go.RowKit

def laid4 : List (String × DataW Unit) := [("graft/graftref1.tableK", Rows.laid_graft_graftref1_tableK), ("graft/graftref1.tableH", Rows.laid_graft_graftref1_tableH), ("graft/digest.startState", Rows.laid_graft_digest_startState), ("graft/digest.roundConstants", Rows.laid_graft_digest_roundConstants)]
theorem g3 : Tryd.prog.globalNamed "graft/graftref1.tableH" = some 3 := by kernel_rfl
theorem g4 : Tryd.prog.globalNamed "graft/graftref1.tableK" = some 4 := by kernel_rfl
theorem g5 : Tryd.prog.globalNamed "graft/digest.startState" = some 5 := by kernel_rfl
theorem g6 : Tryd.prog.globalNamed "graft/digest.roundConstants" = some 6 := by kernel_rfl
theorem t3 : (Tryd.prog.globals[3]?).map (·.type) = some 74 := by kernel_rfl
theorem t4 : (Tryd.prog.globals[4]?).map (·.type) = some 81 := by kernel_rfl
theorem t5 : (Tryd.prog.globals[5]?).map (·.type) = some 74 := by kernel_rfl
theorem t6 : (Tryd.prog.globals[6]?).map (·.type) = some 81 := by kernel_rfl
theorem cells73 : Tryd.prog.cellsOf 73 = 1 := by kernel_rfl
theorem cells74 : Tryd.prog.cellsOf 74 = 8 := by kernel_rfl
theorem cells81 : Tryd.prog.cellsOf 81 = 64 := by kernel_rfl
theorem eqK : (Rows.laid_graft_graftref1_tableK : DataW Unit) = Lib.tabData .u32 (zs Sha.roundN) := rfl
theorem eqH : (Rows.laid_graft_graftref1_tableH : DataW Unit) = Lib.tabData .u32 (zs Sha.startN) := rfl
theorem eqS : (Rows.laid_graft_digest_startState : DataW Unit) = Lib.tabData .u32 (zs Sha.startN) := rfl
theorem eqR : (Rows.laid_graft_digest_roundConstants : DataW Unit) = Lib.tabData .u32 (zs Sha.roundN) := rfl
theorem tabs4 {W : World} (h : laidMetH Tryd.prog laid4 W) : (Lib.TabIs Tryd.prog W "graft/graftref1.tableK" .u32 (zs Sha.roundN) ∧ Lib.TabIs Tryd.prog W "graft/graftref1.tableH" .u32 (zs Sha.startN)) ∧ Lib.TabIs Tryd.prog W "graft/digest.startState" .u32 (zs Sha.startN) ∧ Lib.TabIs Tryd.prog W "graft/digest.roundConstants" .u32 (zs Sha.roundN) := by
  rw [MakeChecks.laidMetH_plain _ _ _ (by kernel_rfl)] at h
  obtain ⟨ps, ⟨a0, b0, cs0, f0, p0, q0, hg0, ht0, hv0, hd0, ⟨a1, b1, cs1, f1, p1, q1, hg1, ht1, hv1, hd1, ⟨a2, b2, cs2, f2, p2, q2, hg2, ht2, hv2, hd2, ⟨a3, b3, cs3, f3, p3, q3, hg3, ht3, hv3, hd3, _, _⟩, _⟩, _⟩, _⟩, _⟩ := h
  obtain rfl := Option.some.inj (g4.symm.trans hg0)
  obtain rfl := Option.some.inj (t4.symm.trans ht0)
  obtain rfl := Option.some.inj (g3.symm.trans hg1)
  obtain rfl := Option.some.inj (t3.symm.trans ht1)
  obtain rfl := Option.some.inj (g5.symm.trans hg2)
  obtain rfl := Option.some.inj (t5.symm.trans ht2)
  obtain rfl := Option.some.inj (g6.symm.trans hg3)
  obtain rfl := Option.some.inj (t6.symm.trans ht3)
  refine ⟨⟨?_, ?_⟩, ?_, ?_⟩
  · unfold Lib.TabIs
    rw [hv0, ← Lib.cells_of_tab Tryd.underlying81 Tryd.underlying73 cells73 cells81 hd0]
  · unfold Lib.TabIs
    rw [hv1, ← Lib.cells_of_tab Tryd.underlying74 Tryd.underlying73 cells73 cells74 hd1]
  · unfold Lib.TabIs
    rw [hv2, ← Lib.cells_of_tab Tryd.underlying74 Tryd.underlying73 cells73 cells74 hd2]
  · unfold Lib.TabIs
    rw [hv3, ← Lib.cells_of_tab Tryd.underlying81 Tryd.underlying73 cells73 cells81 hd3]
theorem row_of_tab {W : World} {name : String} {g : Nat} {l : List Nat} (hg : Tryd.prog.globalNamed name = some g) (h : Lib.TabIs Tryd.prog W name .u32 (zs l)) : ∃ t f, W.heap[g]? = some (.cells (Sha.ws l) t f) := by
  unfold Lib.TabIs World.var? at h
  rw [hg] at h
  simp only [Option.bind_some] at h
  split at h
  · rename_i cs t f hh
    refine ⟨t, f, hh.trans ?_⟩
    rw [Option.some.inj h]
    simp [zs, Sha.ws]
  · cases h
theorem tb_of_laid {W : World} (h : laidMetH Tryd.prog laid4 W) : Sha.Tb W ∧ Sha.Tr W := by
  obtain ⟨⟨ha, hb⟩, hc, hd⟩ := tabs4 h
  have B : ∀ j, j < 8 → W.cell? ⟨5, j, none⟩ = some (.int .u32 ((Sha.startN.getD j 0 : Nat) : Int)) := fun j hj => by have := hc.cell g5 j hj; rw [zs_getD] at this; exact this
  have C : ∀ j, j < 64 → W.cell? ⟨6, j, none⟩ = some (.int .u32 ((Sha.roundN.getD j 0 : Nat) : Int)) := fun j hj => by have := hd.cell g6 j hj; rw [zs_getD] at this; exact this
  refine ⟨⟨?_, B, C⟩, row_of_tab g3 hb, row_of_tab g4 ha⟩
  have h2 := C 0 (by decide)
  rcases Nat.lt_or_ge 6 W.heap.size with h | h
  · exact h
  · simp [World.cell?, Array.getElem?_eq_none h] at h2
/-- A block's words, laid anew. -/
def laidW (l : List Int) : Obj → Obj
  | .cells _ t frozen => .cells (l.map (Value.int .u32)).toArray t frozen
  | o => o
/-- A world for the witness. -/
noncomputable def laidWorldS (os : Os) : World :=
  { World.holding Tryd.prog os ⟨#[], #[], []⟩ with heap := ((((World.holding Tryd.prog os ⟨#[], #[], []⟩).heap.modify 3 (laidW (zs Sha.startN))).modify 4 (laidW (zs Sha.roundN))).modify 5 (laidW (zs Sha.startN))).modify 6 (laidW (zs Sha.roundN)) }
theorem bytes5 : Tryd.prog.bytesOf 5 = 1 := by kernel_rfl
theorem reach_eq : reachBytes = 140737488351232 := by decide
theorem len_le {H : Type} {ts : List TypeId} {ds : List (DataW H)} (h : (DataW.weightsEach Tryd.prog ts ds).all (· ≤ reachBytes) = true) {j : Nat} {d : DataW H} {l : List Nat} (ht : ts[j]? = some 22) (hd : ds[j]? = some d) (hl : (d = .nil ∧ l = []) ∨ ∃ es sp, d = .slice es sp ∧ es.length = l.length) : l.length ≤ 140737488351232 := by
  rcases hl with ⟨_, rfl⟩ | ⟨es, sp, rfl, hlen⟩
  · simp
  · have h1 := sized_slice h ht hd Tryd.underlying22
    have h2 := reach_eq
    rw [bytes5] at h1
    omega
theorem contract (H : Type) (enc : TypeId × Value → H) (W : World) (base : Nat) (args : Array Value) (ds gs : List (DataW H)) (before : List MemPlace) (ht : Sha.Tb W) (hr : Sha.Tr W)
    (hval0 : ∀ (j : Nat) t v, Tryd.f8.params[j]? = some t → args[j]? = some v → Value.okWide Tryd.prog W .any base t v)
    (hW : DataW.Whole enc Tryd.prog Tryd.f8.params.toList Rows.digestSumsSpec.vars false W args.toList ds gs before)
    (hsz0 : (DataW.weightsEach Tryd.prog (Tryd.f8.params.toList ++ Rows.digestSumsSpec.plain.varTypes Tryd.prog) (ds ++ gs)).all (· ≤ reachBytes) = true) :
    Calls Tryd.prog 8 args W fun e W' => ∃ v, e = .returned v ∧ Rows.digestSumsSpec.post enc Tryd.prog Tryd.f8 false true false false W args v W' := by
  have hval := hval0
  have hsz := hsz0
  have hW' := hW
  obtain ⟨p, q, hA0, hV, rfl, hfz, hnd⟩ := hW
  have hA : DataW.TrodAll enc Tryd.prog W 0 (fun _ => true) true Tryd.f8.params.toList args.toList ds p := hA0
  rw [Tryd.params8] at hA hval hsz
  obtain ⟨v0, d0, rfl, rfl, h0⟩ := trodAll_one hA
  obtain ⟨rfl, rfl⟩ := trodVars_none hV
  obtain ⟨d, y0, t0, l0⟩ := open_byl (hval 0 22 v0 rfl rfl) h0
  clear hA0 hval0
  simp only [List.append_nil] at hW'
  have hl0 := len_le hsz (j := 0) rfl rfl l0
  have hlt : ∀ x ∈ p, x.block < W.heap.size := fun x hx => by simpa using hW'.lt x (by simpa using hx)
  refine (Sums.sums_any d t0 hl0 v0 W ht hr y0).mono fun e W' ⟨he, hbl⟩ => ?_
  subst he
  have harg0 := Below.trod laidOut (by kernel_rfl) (of_decide_eq_true (by kernel_rfl)) h0 hbl hlt
  exact ⟨_, rfl, _, _, _, [], _, [], hW', trodAll_mk1 (shut_bool Tryd.underlying4 _), trodAll_mk1 harg0, rfl, hbl.frame _, fun h => by cases h⟩

theorem laid_met (os : Os) : laidMet Tryd.prog Rows.digestSumsRow.laid ((laidWorldS os).forCall (fun _ _ => 0) ⟨#[], #[.slice none 0 0], []⟩).memory :=
  laidMet_of_run' 8 (by kernel_rfl) (by kernel_rfl)
theorem reads (os : Os) {H : Type} (enc : TypeId × Value → H) : ∃ places, DataW.whole enc Tryd.prog ((laidWorldS os).forCall (fun _ _ => 0) ⟨#[], #[.slice none 0 0], []⟩).memory Tryd.f8.params.toList Rows.digestSumsSpec.vars false (#[.slice none 0 0] : Array Value).toList 8 = some ([.nil], [], places) :=
  ⟨[], by kernel_rfl⟩
set_option maxRecDepth 100000 in
theorem lifted (os : Os) (started : os.Started) (H : Type) (enc : TypeId × Value → H) (F : Stop.Interp) :
    ReturnsInHanded {} Tryd.checked os 8 .any ((OpenSpec.ofChange Rows.digestSumsSpec).preRow enc Tryd.prog Tryd.f8 Rows.digestSumsRow.domain false Rows.digestSumsRow.laid) (((OpenSpec.ofChange Rows.digestSumsSpec).at F).post enc Tryd.prog Tryd.f8 false true false false) := by
  obtain ⟨places, hx⟩ := reads os enc
  refine returnsInHanded_of_row (C := Tryd.checked) (s := OpenSpec.ofChange Rows.digestSumsSpec) own started (by kernel_rfl) Tryd.func8
    (witness_row_at (enc := enc) (C := Tryd.checked) false (laidWorldS os) #[.slice none 0 0] rfl (by kernel_rfl) (by kernel_rfl) (by kernel_rfl)
      (OpenSpec.preRow_of_cond 8 hx (by kernel_rfl) (fun k hk => by cases hk) (by kernel_rfl) (laid_met os))) ?_
  intro W base args ds gs before hval hW _ _ hsz hL _ _
  exact contract H enc W base args ds gs before (tb_of_laid hL).1 (tb_of_laid hL).2 hval hW hsz
theorem said : Rows.DigestSumsSaid :=
  OpenClaim.holds_of_cond 8 Tryd.f8 rfl rfl rfl rfl rfl rfl rfl ⟨rfl, rfl, rfl, rfl, rfl⟩ rfl rfl rfl rfl rfl (by kernel_rfl) Tryd.func8 (by kernel_rfl)
    (of_decide_eq_true (by kernel_rfl)) (by unfold Func.isWrapper; first | (rw [if_pos (by decide +kernel)]; kernel_rfl) | (rw [if_neg (by decide +kernel)]; exact ⟨rfl, rfl⟩))
    (fun os started H enc _ F => by rw [OpenClaim.pre_eq_preRow]; exact lifted os started H enc F)
theorem plain (f : FuncId) (fn : Func) (hf : Tryd.pinned.checked.prog.funcNamed "graft/graftlaw1.DigestSums" = some f) (hfn : Tryd.pinned.checked.prog.funcs[f]? = some fn) :
    false = Tryd.pinned.checked.prog.looks [] ∧ ∀ (j : Nat) t, fn.params[j]? = some t → Tryd.pinned.checked.prog.wantsStandIn t = false := by
  obtain rfl : f = 8 := Option.some.inj ((show Tryd.prog.funcNamed "graft/graftlaw1.DigestSums" = some 8 by kernel_rfl).symm.trans hf) |>.symm
  obtain rfl : fn = Tryd.f8 := (Option.some.inj (Tryd.func8.symm.trans hfn)).symm
  refine ⟨by kernel_rfl, fun j t ht => ?_⟩
  rw [Tryd.params8] at ht
  have h26 : t = 22 := by
    match j, ht with
    | 0, h => exact (Option.some.inj h).symm
    | j + 1, h => simp at h
  rw [h26]
  show Tryd.prog.wantsStandIn 22 = false
  exact (by kernel_rfl : Tryd.prog.wantsStandIn 22 = false)
end Go.Proofs.YtkppejaigodgiabDoor.DSums
namespace Go.Proofs.YtkppejaigodgiabDoor
theorem digestSums_card : Rows.DigestSumsCardSaid :=
  Claim7.holds_tied_plain_at .later [] _ _ _ _ DSums.said (fun _ h => by cases h) (by kernel_rfl) (fun _ h => by cases h) digestSums_row_tie rfl ⟨rfl, rfl⟩ (by kernel_rfl) rfl DSums.plain (by kernel_rfl)
#print axioms digestSums_card
end Go.Proofs.YtkppejaigodgiabDoor
