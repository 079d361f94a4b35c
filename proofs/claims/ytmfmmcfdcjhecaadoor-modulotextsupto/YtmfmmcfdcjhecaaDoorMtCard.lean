/- ModuloTexts: the row and the card. -/
import Derived.Test.YtmfmmcfdcjhecaaDoorMt5
import Derived.Test.YtmfmmcfdcjhecaaDoorCards
import Derived.Test.YtmfmmcfdcjhecaaDoorTie
import Derived.Deep.DeepHandedRow
import Derived.Lib.LaidTab
namespace Go.Proofs.YtmfmmcfdcjhecaaDoor.DMt
open Go.ChangeShapes Go.WideShapes Go.ChangeAt Go.RowKit
open Go.ChangeMaps (open_string shut_string)
theorem own : ownKnob Tryd.prog.godebug = none := by kernel_rfl
def zs (l : List Nat) : List Int := l.map (fun (x : Nat) => (x : Int))
def laid6 : List (String × DataW Unit) := [("graft/graftref1.tableK", Rows.laid_graft_graftref1_tableK), ("graft/graftref1.tableH", Rows.laid_graft_graftref1_tableH), ("graft/digest.digits16", Rows.laid_graft_digest_digits16), ("graft/digest.digits32", Rows.laid_graft_digest_digits32), ("graft/digest.startState", Rows.laid_graft_digest_startState), ("graft/digest.roundConstants", Rows.laid_graft_digest_roundConstants)]
theorem g0 : Tryd.prog.globalNamed "graft/digest.digits16" = some 0 := by kernel_rfl
theorem g1 : Tryd.prog.globalNamed "graft/graftref1.tableH" = some 1 := by kernel_rfl
theorem g2 : Tryd.prog.globalNamed "graft/graftref1.tableK" = some 2 := by kernel_rfl
theorem g3 : Tryd.prog.globalNamed "graft/digest.digits32" = some 3 := by kernel_rfl
theorem g4 : Tryd.prog.globalNamed "graft/digest.startState" = some 4 := by kernel_rfl
theorem g5 : Tryd.prog.globalNamed "graft/digest.roundConstants" = some 5 := by kernel_rfl
theorem t0 : (Tryd.prog.globals[0]?).map (·.type) = some 36 := by kernel_rfl
theorem t1 : (Tryd.prog.globals[1]?).map (·.type) = some 45 := by kernel_rfl
theorem t2 : (Tryd.prog.globals[2]?).map (·.type) = some 48 := by kernel_rfl
theorem t3 : (Tryd.prog.globals[3]?).map (·.type) = some 22 := by kernel_rfl
theorem t4 : (Tryd.prog.globals[4]?).map (·.type) = some 45 := by kernel_rfl
theorem t5 : (Tryd.prog.globals[5]?).map (·.type) = some 48 := by kernel_rfl
theorem cells36 : Tryd.prog.cellsOf 36 = 16 := by kernel_rfl
theorem cells22 : Tryd.prog.cellsOf 22 = 32 := by kernel_rfl
theorem cells23 : Tryd.prog.cellsOf 23 = 32 := by kernel_rfl
theorem cells44 : Tryd.prog.cellsOf 44 = 1 := by kernel_rfl
theorem cells45 : Tryd.prog.cellsOf 45 = 8 := by kernel_rfl
theorem cells48 : Tryd.prog.cellsOf 48 = 64 := by kernel_rfl
theorem eqA : (Rows.laid_graft_digest_digits16 : DataW Unit) = Lib.tabData .u8 (zs D16) := rfl
theorem eqB : (Rows.laid_graft_digest_digits32 : DataW Unit) = Lib.tabData .u8 (zs D32) := rfl
theorem eqK : (Rows.laid_graft_graftref1_tableK : DataW Unit) = Lib.tabData .u32 (zs Sha.roundN) := rfl
theorem eqH : (Rows.laid_graft_graftref1_tableH : DataW Unit) = Lib.tabData .u32 (zs Sha.startN) := rfl
theorem eqS : (Rows.laid_graft_digest_startState : DataW Unit) = Lib.tabData .u32 (zs Sha.startN) := rfl
theorem eqR : (Rows.laid_graft_digest_roundConstants : DataW Unit) = Lib.tabData .u32 (zs Sha.roundN) := rfl
theorem tabs6 {W : World} (h : laidMetH Tryd.prog laid6 W) : (Lib.TabIs Tryd.prog W "graft/graftref1.tableK" .u32 (zs Sha.roundN) ∧ Lib.TabIs Tryd.prog W "graft/graftref1.tableH" .u32 (zs Sha.startN)) ∧ (Lib.TabIs Tryd.prog W "graft/digest.digits16" .u8 (zs D16) ∧ Lib.TabIs Tryd.prog W "graft/digest.digits32" .u8 (zs D32)) ∧ Lib.TabIs Tryd.prog W "graft/digest.startState" .u32 (zs Sha.startN) ∧ Lib.TabIs Tryd.prog W "graft/digest.roundConstants" .u32 (zs Sha.roundN) := by
  rw [MakeChecks.laidMetH_plain _ _ _ (by kernel_rfl)] at h
  obtain ⟨ps, ⟨a0, b0, cs0, f0, p0, q0, hg0, ht0, hv0, hd0, ⟨a1, b1, cs1, f1, p1, q1, hg1, ht1, hv1, hd1, ⟨a2, b2, cs2, f2, p2, q2, hg2, ht2, hv2, hd2, ⟨a3, b3, cs3, f3, p3, q3, hg3, ht3, hv3, hd3, ⟨a4, b4, cs4, f4, p4, q4, hg4, ht4, hv4, hd4, ⟨a5, b5, cs5, f5, p5, q5, hg5, ht5, hv5, hd5, _, _⟩, _⟩, _⟩, _⟩, _⟩, _⟩, _⟩ := h
  obtain rfl := Option.some.inj (g2.symm.trans hg0)
  obtain rfl := Option.some.inj (t2.symm.trans ht0)
  obtain rfl := Option.some.inj (g1.symm.trans hg1)
  obtain rfl := Option.some.inj (t1.symm.trans ht1)
  obtain rfl := Option.some.inj (g0.symm.trans hg2)
  obtain rfl := Option.some.inj (t0.symm.trans ht2)
  obtain rfl := Option.some.inj (g3.symm.trans hg3)
  obtain rfl := Option.some.inj (t3.symm.trans ht3)
  obtain rfl := Option.some.inj (g4.symm.trans hg4)
  obtain rfl := Option.some.inj (t4.symm.trans ht4)
  obtain rfl := Option.some.inj (g5.symm.trans hg5)
  obtain rfl := Option.some.inj (t5.symm.trans ht5)
  refine ⟨⟨?_, ?_⟩, ⟨?_, ?_⟩, ?_, ?_⟩
  · unfold Lib.TabIs
    rw [hv0, ← Lib.cells_of_tab Tryd.underlying48 Tryd.underlying44 cells44 cells48 hd0]
  · unfold Lib.TabIs
    rw [hv1, ← Lib.cells_of_tab Tryd.underlying45 Tryd.underlying44 cells44 cells45 hd1]
  · unfold Lib.TabIs
    rw [hv2, ← Lib.cells_of_tab Tryd.underlying36 Tryd.underlying5 cells5 cells36 hd2]
  · unfold Lib.TabIs
    rw [hv3, ← Lib.cells_of_tab Tryd.underlying22 Tryd.underlying5 cells5 cells22 hd3]
  · unfold Lib.TabIs
    rw [hv4, ← Lib.cells_of_tab Tryd.underlying45 Tryd.underlying44 cells44 cells45 hd4]
  · unfold Lib.TabIs
    rw [hv5, ← Lib.cells_of_tab Tryd.underlying48 Tryd.underlying44 cells44 cells48 hd5]
theorem zs_getD (l : List Nat) (j : Nat) : (zs l).getD j 0 = ((l.getD j 0 : Nat) : Int) := by
  by_cases h : j < l.length
  · simp [zs, List.getD, h]
  · simp [zs, List.getD, h]
theorem row_of_tab {W : World} {name : String} {g : Nat} {l : List Nat} (hg : Tryd.prog.globalNamed name = some g) (h : Lib.TabIs Tryd.prog W name .u32 (zs l)) : ∃ t f, W.heap[g]? = some (.cells (Sha.ws l) t f) := by
  unfold Lib.TabIs World.var? at h
  rw [hg] at h
  simp only [Option.bind_some] at h
  split at h
  · rename_i cs t f hh
    refine ⟨t, f, hh.trans ?_⟩
    rw [Option.some.inj h]
    simp [zs, Sha.ws]
  · cases h
theorem tb_of_laid {W : World} (h : laidMetH Tryd.prog laid6 W) : Tx W ∧ Sha.Tb W ∧ Sha.Tr W := by
  obtain ⟨⟨ha, hb⟩, ⟨h16, h32⟩, hc, hd⟩ := tabs6 h
  have A16 : ∀ j, j < 16 → W.cell? ⟨0, j, none⟩ = some (.int .u8 ((g16 j : Nat) : Int)) := fun j hj => by have := h16.cell g0 j hj; rw [zs_getD] at this; exact this
  have A32 : ∀ j, j < 32 → W.cell? ⟨3, j, none⟩ = some (.int .u8 ((g32 j : Nat) : Int)) := fun j hj => by have := h32.cell g3 j hj; rw [zs_getD] at this; exact this
  have B : ∀ j, j < 8 → W.cell? ⟨4, j, none⟩ = some (.int .u32 ((Sha.startN.getD j 0 : Nat) : Int)) := fun j hj => by have := hc.cell g4 j hj; rw [zs_getD] at this; exact this
  have C : ∀ j, j < 64 → W.cell? ⟨5, j, none⟩ = some (.int .u32 ((Sha.roundN.getD j 0 : Nat) : Int)) := fun j hj => by have := hd.cell g5 j hj; rw [zs_getD] at this; exact this
  have hz : 5 < W.heap.size := by
    have h2 := C 0 (by decide)
    rcases Nat.lt_or_ge 5 W.heap.size with h | h
    · exact h
    · simp [World.cell?, Array.getElem?_eq_none h] at h2
  exact ⟨⟨hz, A16, A32⟩, ⟨hz, B, C⟩, row_of_tab g1 hb, row_of_tab g2 ha⟩
/-- A block's cells, laid anew. -/
def laidB (l : List Int) : Obj → Obj
  | .cells _ t frozen => .cells (l.map (Value.int .u8)).toArray t frozen
  | o => o
def laidW (l : List Int) : Obj → Obj
  | .cells _ t frozen => .cells (l.map (Value.int .u32)).toArray t frozen
  | o => o
/-- A world for the witness. -/
noncomputable def laidWorld (os : Os) : World :=
  { World.holding Tryd.prog os ⟨#[], #[], []⟩ with heap := ((((((World.holding Tryd.prog os ⟨#[], #[], []⟩).heap.modify 0 (laidB (zs D16))).modify 1 (laidW (zs Sha.startN))).modify 2 (laidW (zs Sha.roundN))).modify 3 (laidB (zs D32))).modify 4 (laidW (zs Sha.startN))).modify 5 (laidW (zs Sha.roundN)) }
theorem one_le {H : Type} (d : DataW H) : 1 ≤ Rows.uptoBulk d := by
  cases d with
  | lit l => cases l <;> simp [Rows.uptoBulk]
  | _ => simp [Rows.uptoBulk]
theorem part_le {H : Type} {d : DataW H} : ∀ {l : List (DataW H)}, d ∈ l → Rows.uptoBulk d ≤ Rows.uptoBulkAll l
  | x :: r, h => by
    simp only [Rows.uptoBulkAll]
    rcases List.mem_cons.1 h with e | e
    · subst e; omega
    · have := part_le e; omega
theorem str_le {H : Type} {ds : List (DataW H)} (hk : Rows.uptoSmall H ds = true) {s : ByteArray} (hd : (DataW.lit (.string s.data.toList) : DataW H) ∈ ds) : s.size ≤ 1048576 := by
  have h0 := of_decide_eq_true hk
  have h1 := part_le hd
  have h2 : s.data.toList.length = s.size := by rw [Array.length_toList]; rfl
  simp only [Rows.uptoBulk] at h1
  omega
theorem contract (H : Type) (enc : TypeId × Value → H) (W : World) (base : Nat) (args : Array Value) (ds gs : List (DataW H)) (before : List MemPlace) (hx : Tx W) (ht : Sha.Tb W) (htr : Sha.Tr W)
    (hval0 : ∀ (j : Nat) t v, Tryd.f3.params[j]? = some t → args[j]? = some v → Value.okWide Tryd.prog W .any base t v)
    (hW : DataW.Whole enc Tryd.prog Tryd.f3.params.toList Rows.moduloTextsSpec.vars false W args.toList ds gs before)
    (hk : Rows.uptoSmall H (ds ++ gs) = true) :
    Calls Tryd.prog 3 args W fun e W' => ∃ v, e = .returned v ∧ Rows.moduloTextsSpec.post enc Tryd.prog Tryd.f3 false true false false W args v W' := by
  have hval := hval0
  have hW' := hW
  obtain ⟨p, q, hA0, hV, rfl, hfz, hnd⟩ := hW
  have hA : DataW.TrodAll enc Tryd.prog W 0 (fun _ => true) true Tryd.f3.params.toList args.toList ds p := hA0
  rw [Tryd.params3] at hA hval
  obtain ⟨v0, v1, v2, d0, d1, d2, p0, p1, p2, rfl, rfl, rfl, h0, h1, h2⟩ := trodAll_three hA
  obtain ⟨rfl, rfl⟩ := trodVars_none hV
  obtain ⟨sm, hsl, hsb, rfl, rfl, rfl⟩ := open_bs Tryd.underlying23 Tryd.underlying5 cells5 cells23 (hval 0 23 v0 rfl rfl) h0
  obtain ⟨u, rfl, rfl, rfl, hu⟩ := open_string Tryd.underlying9 (hval 1 9 v1 rfl rfl) h1
  obtain ⟨r, rfl, rfl, rfl, hr⟩ := open_string Tryd.underlying9 (hval 2 9 v2 rfl rfl) h2
  clear hA0 hval0
  simp only [List.append_nil] at hW' hk
  have hlu := str_le hk (s := u) (by simp)
  have hlr := str_le hk (s := r) (by simp)
  refine (mt_any sm hsl hsb u r (by omega) (by omega) W hx ht htr).mono fun e W' ⟨he, hbl⟩ => ?_
  subst he
  exact ⟨_, rfl, _, _, _, [], _, [], hW', trodAll_mk1 (shut_bool Tryd.underlying4 _), trodAll_mk3 (shut_bs sm Tryd.underlying23 Tryd.underlying5 cells5 cells23 hsl hsb) (shut_string Tryd.underlying9 hu) (shut_string Tryd.underlying9 hr), rfl, hbl.frame _, fun h => by cases h⟩
def wit : Array Value := #[.agg (bs (List.replicate 32 0)), .string ⟨#[]⟩, .string ⟨#[]⟩]
theorem laid_met (os : Os) : laidMet Tryd.prog Rows.moduloTextsUptoRow.laid ((laidWorld os).forCall (fun _ _ => 0) ⟨#[], wit, []⟩).memory :=
  laidMet_of_run' 8 (by kernel_rfl) (by kernel_rfl)
theorem reads (os : Os) {H : Type} (enc : TypeId × Value → H) : ∃ places, DataW.whole enc Tryd.prog ((laidWorld os).forCall (fun _ _ => 0) ⟨#[], wit, []⟩).memory Tryd.f3.params.toList Rows.moduloTextsSpec.vars false wit.toList 8 = some ([.agg (dlits (List.replicate 32 0)), .lit (.string []), .lit (.string [])], [], places) :=
  ⟨[], by kernel_rfl⟩
set_option maxRecDepth 100000 in
theorem lifted (os : Os) (started : os.Started) (H : Type) (enc : TypeId × Value → H) (F : Stop.Interp) :
    ReturnsInHanded {} Tryd.checked os 3 .any ((Rows.OpenSpec.upto Rows.moduloTextsSpec).preRow enc Tryd.prog Tryd.f3 Rows.moduloTextsUptoRow.domain false Rows.moduloTextsUptoRow.laid) (((Rows.OpenSpec.upto Rows.moduloTextsSpec).at F).post enc Tryd.prog Tryd.f3 false true false false) := by
  obtain ⟨places, hx⟩ := reads os enc
  refine returnsInHanded_of_row (C := Tryd.checked) (s := Rows.OpenSpec.upto Rows.moduloTextsSpec) own started (by kernel_rfl) Tryd.func3
    (witness_row_at (enc := enc) (C := Tryd.checked) false (laidWorld os) wit rfl (by kernel_rfl) (by kernel_rfl) (by kernel_rfl)
      (OpenSpec.preRow_of_cond 8 hx (by kernel_rfl) (fun k hk => by cases hk; kernel_rfl) (by kernel_rfl) (laid_met os))) ?_
  intro W base args ds gs before hval hW _ hcond _ hL _ _
  exact contract H enc W base args ds gs before (tb_of_laid hL).1 (tb_of_laid hL).2.1 (tb_of_laid hL).2.2 hval hW (hcond _ rfl)
theorem said : Rows.ModuloTextsUptoSaid :=
  OpenClaim.holds_of_cond 3 Tryd.f3 rfl rfl rfl rfl rfl rfl rfl ⟨rfl, rfl, rfl, rfl, rfl⟩ rfl rfl rfl rfl rfl (by kernel_rfl) Tryd.func3 (by kernel_rfl)
    (of_decide_eq_true (by kernel_rfl)) (by unfold Func.isWrapper; first | (rw [if_pos (by decide +kernel)]; kernel_rfl) | (rw [if_neg (by decide +kernel)]; exact ⟨rfl, rfl⟩))
    (fun os started H enc _ F => by rw [OpenClaim.pre_eq_preRow]; exact lifted os started H enc F)
theorem plain (f : FuncId) (fn : Func) (hf : Tryd.pinned.checked.prog.funcNamed "graft/graftlaw7.ModuloTexts" = some f) (hfn : Tryd.pinned.checked.prog.funcs[f]? = some fn) :
    false = Tryd.pinned.checked.prog.looks [] ∧ ∀ (j : Nat) t, fn.params[j]? = some t → Tryd.pinned.checked.prog.wantsStandIn t = false := by
  obtain rfl : f = 3 := Option.some.inj ((show Tryd.prog.funcNamed "graft/graftlaw7.ModuloTexts" = some 3 by kernel_rfl).symm.trans hf) |>.symm
  obtain rfl : fn = Tryd.f3 := (Option.some.inj (Tryd.func3.symm.trans hfn)).symm
  refine ⟨by kernel_rfl, fun j t ht => ?_⟩
  rw [Tryd.params3] at ht
  match j, ht with
  | 0, h =>
    obtain rfl := (Option.some.inj h).symm
    exact (by kernel_rfl : Tryd.prog.wantsStandIn 23 = false)
  | 1, h =>
    obtain rfl := (Option.some.inj h).symm
    exact (by kernel_rfl : Tryd.prog.wantsStandIn 9 = false)
  | 2, h =>
    obtain rfl := (Option.some.inj h).symm
    exact (by kernel_rfl : Tryd.prog.wantsStandIn 9 = false)
  | j + 3, h => simp at h
end Go.Proofs.YtmfmmcfdcjhecaaDoor.DMt
namespace Go.Proofs.YtmfmmcfdcjhecaaDoor
theorem moduloTexts_card : Rows.ModuloTextsUptoCardSaid :=
  Claim7.holds_tied_plain_at .later [] _ _ _ _ DMt.said (fun _ h => by cases h) (by kernel_rfl) (fun _ h => by cases h) moduloTextsUpto_row_tie rfl ⟨rfl, rfl⟩ (by kernel_rfl) rfl DMt.plain (by kernel_rfl)
#print axioms moduloTexts_card
end Go.Proofs.YtmfmmcfdcjhecaaDoor
