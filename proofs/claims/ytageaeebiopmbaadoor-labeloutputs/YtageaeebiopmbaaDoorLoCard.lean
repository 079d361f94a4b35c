/- LabelOutputs: the row and the card. -/
import Derived.Test.YtageaeebiopmbaaDoorLoX
import Derived.Test.YtageaeebiopmbaaDoorCards
import Derived.Test.YtageaeebiopmbaaDoorTie
import Derived.Deep.DeepHandedRow
import Derived.Lib.LaidTab
import Derived.Carry
namespace Go.Proofs.YtageaeebiopmbaaDoor.DLo
open Go.ChangeShapes Go.WideShapes Go.ChangeAt Go.RowKit
open Go.ChangeMaps (open_string shut_string)
set_option maxRecDepth 100000
theorem own : ownKnob Tryd.prog.godebug = none := by kernel_rfl
def zs (l : List Nat) : List Int := l.map (fun (x : Nat) => (x : Int))
def laid8 : List (String × DataW Unit) := [("math/bits.deBruijn32tab", Rows.laid_math_bits_deBruijn32tab), ("math/bits.deBruijn64tab", Rows.laid_math_bits_deBruijn64tab), ("internal/strconv.uint64pow10", Rows.laid_internal_strconv_uint64pow10), ("graft/digest.digits16", Rows.laid_graft_digest_digits16), ("graft/digest.digits32", Rows.laid_graft_digest_digits32), ("graft/digest.startState", Rows.laid_graft_digest_startState), ("graft/digest.roundConstants", Rows.laid_graft_digest_roundConstants), ("graft/label.kinds", Rows.laid_graft_label_kinds)]
theorem g7 : Tryd.prog.globalNamed "math/bits.deBruijn32tab" = some 7 := by kernel_rfl
theorem t7 : (Tryd.prog.globals[7]?).map (·.type) = some 22 := by kernel_rfl
theorem g8 : Tryd.prog.globalNamed "math/bits.deBruijn64tab" = some 8 := by kernel_rfl
theorem t8 : (Tryd.prog.globals[8]?).map (·.type) = some 76 := by kernel_rfl
theorem g6 : Tryd.prog.globalNamed "internal/strconv.uint64pow10" = some 6 := by kernel_rfl
theorem t6 : (Tryd.prog.globals[6]?).map (·.type) = some 129 := by kernel_rfl
theorem g1 : Tryd.prog.globalNamed "graft/digest.digits16" = some 1 := by kernel_rfl
theorem t1 : (Tryd.prog.globals[1]?).map (·.type) = some 71 := by kernel_rfl
theorem g2 : Tryd.prog.globalNamed "graft/digest.digits32" = some 2 := by kernel_rfl
theorem t2 : (Tryd.prog.globals[2]?).map (·.type) = some 22 := by kernel_rfl
theorem g3 : Tryd.prog.globalNamed "graft/digest.startState" = some 3 := by kernel_rfl
theorem t3 : (Tryd.prog.globals[3]?).map (·.type) = some 75 := by kernel_rfl
theorem g4 : Tryd.prog.globalNamed "graft/digest.roundConstants" = some 4 := by kernel_rfl
theorem t4 : (Tryd.prog.globals[4]?).map (·.type) = some 102 := by kernel_rfl
theorem g0 : Tryd.prog.globalNamed "graft/label.kinds" = some 0 := by kernel_rfl
theorem t0 : (Tryd.prog.globals[0]?).map (·.type) = some 59 := by kernel_rfl
theorem cells71 : Tryd.prog.cellsOf 71 = 16 := by kernel_rfl
theorem cells22 : Tryd.prog.cellsOf 22 = 32 := by kernel_rfl
theorem cells23 : Tryd.prog.cellsOf 23 = 32 := by kernel_rfl
theorem cells74 : Tryd.prog.cellsOf 74 = 1 := by kernel_rfl
theorem cells75 : Tryd.prog.cellsOf 75 = 8 := by kernel_rfl
theorem cells102 : Tryd.prog.cellsOf 102 = 64 := by kernel_rfl
theorem cells58 : Tryd.prog.cellsOf 58 = 2 := by kernel_rfl
theorem cells59 : Tryd.prog.cellsOf 59 = 10 := by kernel_rfl
theorem cells9 : Tryd.prog.cellsOf 9 = 1 := by kernel_rfl
theorem cells3 : Tryd.prog.cellsOf 3 = 1 := by kernel_rfl
theorem eqA : (Rows.laid_graft_digest_digits16 : DataW Unit) = Lib.tabData .u8 (zs D16) := rfl
theorem eqB : (Rows.laid_graft_digest_digits32 : DataW Unit) = Lib.tabData .u8 (zs D32) := rfl
theorem eqS : (Rows.laid_graft_digest_startState : DataW Unit) = Lib.tabData .u32 (zs Sha.startN) := rfl
theorem eqR : (Rows.laid_graft_digest_roundConstants : DataW Unit) = Lib.tabData .u32 (zs Sha.roundN) := rfl
/-- The kinds, as far as outputs ask. -/
theorem kinds_cells {H : Type} {enc : TypeId × Value → H} {w : World} {base : Nat} {sp : Nat → Bool} {held : Bool} {fuel : Nat} {cs : List Value} {p : List MemPlace}
    (h : DataW.trod enc Tryd.prog w base sp held fuel 59 cs = some (Rows.laid_graft_label_kinds, p)) : cs[6]? = some (.string ⟨#[111, 117, 116, 112, 117, 116]⟩) ∧ cs[7]? = some (.int .i64 4) := by
  cases fuel with
  | zero => simp [DataW.trod] at h
  | succ fuel =>
    simp only [DataW.trod, Tryd.underlying59, cells58, cells59] at h
    split at h
    · rename_i hl
      obtain ⟨xs, hm, hx⟩ := Option.map_eq_some_iff.1 h
      have hxs := congrArg Prod.fst hx
      simp only [Rows.laid_graft_label_kinds, DataW.agg.injEq] at hxs
      obtain ⟨b, hb, hf⟩ := Lib.mapM_at hm 3 3 (by simp)
      have h3 : (xs.map (·.1))[3]? = some b.1 := by simp [hb]
      rw [hxs] at h3
      simp only [List.getElem?_cons_succ, List.getElem?_cons_zero, Option.some.injEq] at h3
      obtain ⟨y0, y1, k, hy, hyl, h0, h1⟩ := trod_struct2 Tryd.underlying58 hf
      simp only [] at h0 h1
      rw [cells9] at h0
      rw [cells3] at h1
      obtain ⟨s, s1, s2, s3⟩ := DataW.trod_string Tryd.underlying9 h0
      obtain ⟨m, m1, m2, m3⟩ := DataW.trod_int Tryd.underlying3 h1
      rw [hy, s2, m2] at h3
      simp only [DataW.agg.injEq, List.cons.injEq, DataW.lit.injEq, Lit.string.injEq, Lit.int.injEq, true_and, and_true] at h3
      obtain ⟨q1, q2⟩ := h3
      have e6 : cs[6]? = some (.string s) := by
        have := congrArg (·[0]?) s1
        simpa [List.getElem?_take, List.getElem?_drop] using this
      have e7 : cs[7]? = some (.int .i64 m) := by
        have := congrArg (·[0]?) m1
        simpa [List.getElem?_take, List.getElem?_drop] using this
      refine ⟨e6.trans ?_, e7.trans ?_⟩
      · congr 2
        apply ByteArray.ext
        apply Array.toList_inj.1
        exact q1.symm
      · rw [← q2]
    · cases h
theorem tabs8 {W : World} (h : laidMetH Tryd.prog laid8 W) : (Lib.TabIs Tryd.prog W "graft/digest.digits16" .u8 (zs D16) ∧ Lib.TabIs Tryd.prog W "graft/digest.digits32" .u8 (zs D32)) ∧ (Lib.TabIs Tryd.prog W "graft/digest.startState" .u32 (zs Sha.startN) ∧ Lib.TabIs Tryd.prog W "graft/digest.roundConstants" .u32 (zs Sha.roundN)) ∧ ∃ cs : Array Value, W.var? Tryd.prog "graft/label.kinds" = some cs ∧ cs[6]? = some (.string ⟨#[111, 117, 116, 112, 117, 116]⟩) ∧ cs[7]? = some (.int .i64 4) := by
  rw [MakeChecks.laidMetH_plain _ _ _ (by kernel_rfl)] at h
  obtain ⟨ps, ⟨a0, b0, cs0, f0, p0, q0, hg0, ht0, hv0, hd0, ⟨a1, b1, cs1, f1, p1, q1, hg1, ht1, hv1, hd1, ⟨a2, b2, cs2, f2, p2, q2, hg2, ht2, hv2, hd2, ⟨a3, b3, cs3, f3, p3, q3, hg3, ht3, hv3, hd3, ⟨a4, b4, cs4, f4, p4, q4, hg4, ht4, hv4, hd4, ⟨a5, b5, cs5, f5, p5, q5, hg5, ht5, hv5, hd5, ⟨a6, b6, cs6, f6, p6, q6, hg6, ht6, hv6, hd6, ⟨a7, b7, cs7, f7, p7, q7, hg7, ht7, hv7, hd7, _, _⟩, _⟩, _⟩, _⟩, _⟩, _⟩, _⟩, _⟩, _⟩ := h
  obtain rfl := Option.some.inj (g1.symm.trans hg3)
  obtain rfl := Option.some.inj (t1.symm.trans ht3)
  obtain rfl := Option.some.inj (g2.symm.trans hg4)
  obtain rfl := Option.some.inj (t2.symm.trans ht4)
  obtain rfl := Option.some.inj (g3.symm.trans hg5)
  obtain rfl := Option.some.inj (t3.symm.trans ht5)
  obtain rfl := Option.some.inj (g4.symm.trans hg6)
  obtain rfl := Option.some.inj (t4.symm.trans ht6)
  obtain rfl := Option.some.inj (g0.symm.trans hg7)
  obtain rfl := Option.some.inj (t0.symm.trans ht7)
  refine ⟨⟨?_, ?_⟩, ⟨?_, ?_⟩, ?_⟩
  · unfold Lib.TabIs
    rw [hv3, ← Lib.cells_of_tab Tryd.underlying71 Tryd.underlying5 cells5 cells71 hd3]
  · unfold Lib.TabIs
    rw [hv4, ← Lib.cells_of_tab Tryd.underlying22 Tryd.underlying5 cells5 cells22 hd4]
  · unfold Lib.TabIs
    rw [hv5, ← Lib.cells_of_tab Tryd.underlying75 Tryd.underlying74 cells74 cells75 hd5]
  · unfold Lib.TabIs
    rw [hv6, ← Lib.cells_of_tab Tryd.underlying102 Tryd.underlying74 cells74 cells102 hd6]
  · have := kinds_cells hd7
    exact ⟨_, hv7, by simpa using this.1, by simpa using this.2⟩
theorem zs_getD (l : List Nat) (j : Nat) : (zs l).getD j 0 = ((l.getD j 0 : Nat) : Int) := by
  by_cases h : j < l.length
  · simp [zs, List.getD, h]
  · simp [zs, List.getD, h]
theorem tb_of_laid {W : World} (h : laidMetH Tryd.prog laid8 W) : Tx W ∧ Sha.Tb W ∧ Tk W := by
  obtain ⟨⟨h16, h32⟩, ⟨hc, hd⟩, cs, hv, k6, k7⟩ := tabs8 h
  have A16 : ∀ j, j < 16 → W.cell? ⟨1, j, none⟩ = some (.int .u8 ((g16 j : Nat) : Int)) := fun j hj => by have := h16.cell g1 j hj; rw [zs_getD] at this; exact this
  have A32 : ∀ j, j < 32 → W.cell? ⟨2, j, none⟩ = some (.int .u8 ((g32 j : Nat) : Int)) := fun j hj => by have := h32.cell g2 j hj; rw [zs_getD] at this; exact this
  have B : ∀ j, j < 8 → W.cell? ⟨3, j, none⟩ = some (.int .u32 ((Sha.startN.getD j 0 : Nat) : Int)) := fun j hj => by have := hc.cell g3 j hj; rw [zs_getD] at this; exact this
  have C : ∀ j, j < 64 → W.cell? ⟨4, j, none⟩ = some (.int .u32 ((Sha.roundN.getD j 0 : Nat) : Int)) := fun j hj => by have := hd.cell g4 j hj; rw [zs_getD] at this; exact this
  have hz : 4 < W.heap.size := by
    have h2 := C 0 (by decide)
    rcases Nat.lt_or_ge 4 W.heap.size with h | h
    · exact h
    · simp [World.cell?, Array.getElem?_eq_none h] at h2
  obtain ⟨t, f, hr⟩ : ∃ t f, W.heap[0]? = some (.cells cs t f) := by
    unfold World.var? at hv
    rw [g0] at hv
    simp only [Option.bind_some] at hv
    split at hv
    · rename_i cs' t f hh
      exact ⟨t, f, by rw [hh, Option.some.inj hv]⟩
    · cases hv
  exact ⟨⟨by omega, A16, A32⟩, ⟨hz, B, C⟩, ⟨by simp [World.cell?, hr, k6], by simp [World.cell?, hr, k7]⟩⟩
/-- A block's cells, laid anew. -/
def laidC (l : List Value) : Obj → Obj
  | .cells _ t frozen => .cells l.toArray t frozen
  | o => o
def kindsC : List Value := [.string ⟨#[]⟩, .int .i64 0, .string ⟨#[116, 101, 120, 116]⟩, .int .i64 1, .string ⟨#[115, 111, 117, 114, 99, 101]⟩, .int .i64 3, .string ⟨#[111, 117, 116, 112, 117, 116]⟩, .int .i64 4, .string ⟨#[109, 101, 109, 98, 101, 114]⟩, .int .i64 8]
def db32 : List Int := [0, 1, 28, 2, 29, 14, 24, 3, 30, 22, 20, 15, 25, 17, 4, 8, 31, 27, 13, 23, 21, 19, 16, 7, 26, 12, 18, 6, 11, 5, 10, 9]
def db64 : List Int := [0, 1, 56, 2, 57, 49, 28, 3, 61, 58, 42, 50, 38, 29, 17, 4, 62, 47, 59, 36, 45, 43, 51, 22, 53, 39, 33, 30, 24, 18, 12, 5, 63, 55, 48, 27, 60, 41, 37, 16, 46, 35, 44, 21, 52, 32, 23, 11, 54, 26, 40, 15, 34, 20, 31, 10, 25, 14, 19, 9, 13, 8, 7, 6]
def p10 : List Int := [1, 10, 100, 1000, 10000, 100000, 1000000, 10000000, 100000000, 1000000000, 10000000000, 100000000000, 1000000000000, 10000000000000, 100000000000000, 1000000000000000, 10000000000000000, 100000000000000000, 1000000000000000000, 10000000000000000000]
/-- A world for the witness. -/
noncomputable def laidWorld (os : Os) : World :=
  { World.holding Tryd.prog os ⟨#[], #[], []⟩ with heap := ((((((((World.holding Tryd.prog os ⟨#[], #[], []⟩).heap.modify 0 (laidC kindsC)).modify 1 (laidC ((zs D16).map (Value.int .u8)))).modify 2 (laidC ((zs D32).map (Value.int .u8)))).modify 3 (laidC ((zs Sha.startN).map (Value.int .u32)))).modify 4 (laidC ((zs Sha.roundN).map (Value.int .u32)))).modify 6 (laidC (p10.map (Value.int .u64)))).modify 7 (laidC (db32.map (Value.int .u8)))).modify 8 (laidC (db64.map (Value.int .u8))) }
theorem contract (H : Type) (enc : TypeId × Value → H) (W : World) (base : Nat) (args : Array Value) (ds gs : List (DataW H)) (before : List MemPlace) (hx : Tx W) (ht : Sha.Tb W) (hk : Tk W)
    (hval0 : ∀ (j : Nat) t v, Tryd.f3.params[j]? = some t → args[j]? = some v → Value.okWide Tryd.prog W .any base t v)
    (hW : DataW.Whole enc Tryd.prog Tryd.f3.params.toList Rows.labelOutputsSpec.vars false W args.toList ds gs before) :
    Calls Tryd.prog 3 args W fun e W' => ∃ v, e = .returned v ∧ Rows.labelOutputsSpec.post enc Tryd.prog Tryd.f3 false true false false W args v W' := by
  have hval := hval0
  have hW' := hW
  obtain ⟨p, q, hA0, hV, rfl, hfz, hnd⟩ := hW
  have hA : DataW.TrodAll enc Tryd.prog W 0 (fun _ => true) true Tryd.f3.params.toList args.toList ds p := hA0
  rw [Tryd.params3] at hA hval
  obtain ⟨v0, v1, v2, v3, d0, d1, d2, d3, p0, p1, p2, p3, rfl, rfl, rfl, h0, h1, h2, h3⟩ := trodAll_four hA
  obtain ⟨rfl, rfl⟩ := trodVars_none hV
  obtain ⟨sm, hsl, hsb, rfl, rfl, rfl⟩ := open_bs Tryd.underlying23 Tryd.underlying5 cells5 cells23 (hval 0 23 v0 rfl rfl) h0
  obtain ⟨u, rfl, rfl, rfl, hu⟩ := open_string Tryd.underlying9 (hval 1 9 v1 rfl rfl) h1
  obtain ⟨r, rfl, rfl, rfl, hr⟩ := open_string Tryd.underlying9 (hval 2 9 v2 rfl rfl) h2
  obtain ⟨z, rfl, rfl, rfl, hz⟩ := open_string Tryd.underlying9 (hval 3 9 v3 rfl rfl) h3
  clear hA0 hval0
  simp only [List.append_nil] at hW'
  refine (outputs_any sm hsl hsb u r z W hk hx ht).mono fun e W' ⟨he, hbl⟩ => ?_
  subst he
  exact ⟨_, rfl, _, _, _, [], _, [], hW', trodAll_mk1 (shut_bool Tryd.underlying4 _), trodAll_mk4 (shut_bs sm Tryd.underlying23 Tryd.underlying5 cells5 cells23 hsl hsb) (shut_string Tryd.underlying9 hu) (shut_string Tryd.underlying9 hr) (shut_string Tryd.underlying9 hz), rfl, hbl.frame _, fun h => by cases h⟩
def wit : Array Value := #[.agg (bs (List.replicate 32 0)), .string ⟨#[]⟩, .string ⟨#[]⟩, .string ⟨#[]⟩]
theorem laid_met (os : Os) : laidMet Tryd.prog Rows.labelOutputsRow.laid ((laidWorld os).forCall (fun _ _ => 0) ⟨#[], wit, []⟩).memory :=
  laidMet_of_run' 8 (by kernel_rfl) (by kernel_rfl)
theorem reads (os : Os) {H : Type} (enc : TypeId × Value → H) : ∃ places, DataW.whole enc Tryd.prog ((laidWorld os).forCall (fun _ _ => 0) ⟨#[], wit, []⟩).memory Tryd.f3.params.toList Rows.labelOutputsSpec.vars false wit.toList 8 = some ([.agg (dlits (List.replicate 32 0)), .lit (.string []), .lit (.string []), .lit (.string [])], [], places) :=
  ⟨[], by kernel_rfl⟩
set_option maxRecDepth 100000 in
theorem lifted (os : Os) (started : os.Started) (H : Type) (enc : TypeId × Value → H) (F : Stop.Interp) :
    ReturnsInHanded {} Tryd.checked os 3 .any ((OpenSpec.ofChange Rows.labelOutputsSpec).preRow enc Tryd.prog Tryd.f3 Rows.labelOutputsRow.domain false Rows.labelOutputsRow.laid) (((OpenSpec.ofChange Rows.labelOutputsSpec).at F).post enc Tryd.prog Tryd.f3 false true false false) := by
  obtain ⟨places, hx⟩ := reads os enc
  refine returnsInHanded_of_row (C := Tryd.checked) (s := OpenSpec.ofChange Rows.labelOutputsSpec) own started (by kernel_rfl) Tryd.func3
    (witness_row_at (enc := enc) (C := Tryd.checked) false (laidWorld os) wit rfl (by kernel_rfl) (by kernel_rfl) (by kernel_rfl)
      (OpenSpec.preRow_of_cond 8 hx (by kernel_rfl) (fun k hk => by cases hk) (by kernel_rfl) (laid_met os))) ?_
  intro W base args ds gs before hval hW _ _ _ hL _ _
  exact contract H enc W base args ds gs before (tb_of_laid hL).1 (tb_of_laid hL).2.1 (tb_of_laid hL).2.2 hval hW
theorem said : Rows.LabelOutputsSaid :=
  OpenClaim.holds_of_cond 3 Tryd.f3 rfl rfl rfl rfl rfl rfl rfl ⟨rfl, rfl, rfl, rfl, rfl⟩ rfl rfl rfl rfl rfl (by kernel_rfl) Tryd.func3 (by kernel_rfl)
    (of_decide_eq_true (by kernel_rfl)) (by unfold Func.isWrapper; first | (rw [if_pos (by decide +kernel)]; kernel_rfl) | (rw [if_neg (by decide +kernel)]; exact ⟨rfl, rfl⟩))
    (fun os started H enc _ F => by rw [OpenClaim.pre_eq_preRow]; exact lifted os started H enc F)
theorem plain (f : FuncId) (fn : Func) (hf : Tryd.pinned.checked.prog.funcNamed "graft/graftlaw2.LabelOutputs" = some f) (hfn : Tryd.pinned.checked.prog.funcs[f]? = some fn) :
    false = Tryd.pinned.checked.prog.looks [] ∧ ∀ (j : Nat) t, fn.params[j]? = some t → Tryd.pinned.checked.prog.wantsStandIn t = false := by
  obtain rfl : f = 3 := Option.some.inj ((show Tryd.prog.funcNamed "graft/graftlaw2.LabelOutputs" = some 3 by kernel_rfl).symm.trans hf) |>.symm
  obtain rfl : fn = Tryd.f3 := (Option.some.inj (Tryd.func3.symm.trans hfn)).symm
  refine ⟨by kernel_rfl, fun j t ht => ?_⟩
  rw [Tryd.params3] at ht
  match j, ht with
  | 0, h =>
    obtain rfl := (Option.some.inj h).symm
    exact (by kernel_rfl : Tryd.prog.wantsStandIn 23 = false)
  | 1, h =>
    obtain rfl := (Option.some.inj h).symm
    exact (by kernel_rfl : Tryd.prog.wantsStandIn 9 = false)
  | 2, h =>
    obtain rfl := (Option.some.inj h).symm
    exact (by kernel_rfl : Tryd.prog.wantsStandIn 9 = false)
  | 3, h =>
    obtain rfl := (Option.some.inj h).symm
    exact (by kernel_rfl : Tryd.prog.wantsStandIn 9 = false)
  | j + 4, h => simp at h
end Go.Proofs.YtageaeebiopmbaaDoor.DLo
namespace Go.Proofs.YtageaeebiopmbaaDoor
theorem labelOutputs_card : Rows.LabelOutputsCardSaid :=
  Claim7.holds_tied_plain_at .later [] _ _ _ _ DLo.said (fun _ h => by cases h) (by kernel_rfl) (fun _ h => by cases h) labelOutputs_row_tie rfl ⟨rfl, rfl⟩ (by kernel_rfl) rfl DLo.plain (by kernel_rfl)
#print axioms labelOutputs_card
end Go.Proofs.YtageaeebiopmbaaDoor
