/- DigestLabels: the row and the card. -/
import Derived.Test.YtkppejaigodgiabDoorLbl
import Derived.Test.YtkppejaigodgiabDoorTab
import Derived.Carry
import Derived.Deep.Slices
import Derived.OpenShut
namespace Go.Proofs.YtkppejaigodgiabDoor.DLabels
open Go.ChangeShapes Go.WideShapes Go.ChangeAt Go.RowKit

def laid5 : List (String × DataW Unit) := [("graft/digest.digits16", Rows.laid_graft_digest_digits16), ("graft/digest.digits32", Rows.laid_graft_digest_digits32), ("graft/digest.digits64", Rows.laid_graft_digest_digits64), ("graft/digest.startState", Rows.laid_graft_digest_startState), ("graft/digest.roundConstants", Rows.laid_graft_digest_roundConstants)]
theorem g5 : Tryd.prog.globalNamed "graft/digest.startState" = some 5 := by kernel_rfl
theorem g6 : Tryd.prog.globalNamed "graft/digest.roundConstants" = some 6 := by kernel_rfl
theorem t5 : (Tryd.prog.globals[5]?).map (·.type) = some 74 := by kernel_rfl
theorem t6 : (Tryd.prog.globals[6]?).map (·.type) = some 81 := by kernel_rfl
theorem cells73 : Tryd.prog.cellsOf 73 = 1 := by kernel_rfl
theorem cells74 : Tryd.prog.cellsOf 74 = 8 := by kernel_rfl
theorem cells81 : Tryd.prog.cellsOf 81 = 64 := by kernel_rfl
theorem eqS : (Rows.laid_graft_digest_startState : DataW Unit) = Lib.tabData .u32 (zs Sha.startN) := rfl
theorem eqR : (Rows.laid_graft_digest_roundConstants : DataW Unit) = Lib.tabData .u32 (zs Sha.roundN) := rfl
theorem tabs5 {W : World} (h : laidMetH Tryd.prog laid5 W) : (Lib.TabIs Tryd.prog W "graft/digest.digits16" .u8 (zs D16) ∧ Lib.TabIs Tryd.prog W "graft/digest.digits32" .u8 (zs D32) ∧ Lib.TabIs Tryd.prog W "graft/digest.digits64" .u8 (zs D64)) ∧ Lib.TabIs Tryd.prog W "graft/digest.startState" .u32 (zs Sha.startN) ∧ Lib.TabIs Tryd.prog W "graft/digest.roundConstants" .u32 (zs Sha.roundN) := by
  rw [MakeChecks.laidMetH_plain _ _ _ (by kernel_rfl)] at h
  obtain ⟨ps, ⟨a0, b0, cs0, f0, p0, q0, hg0, ht0, hv0, hd0, ⟨a1, b1, cs1, f1, p1, q1, hg1, ht1, hv1, hd1, ⟨a2, b2, cs2, f2, p2, q2, hg2, ht2, hv2, hd2, ⟨a3, b3, cs3, f3, p3, q3, hg3, ht3, hv3, hd3, ⟨a4, b4, cs4, f4, p4, q4, hg4, ht4, hv4, hd4, _, _⟩, _⟩, _⟩, _⟩, _⟩, _⟩ := h
  obtain rfl := Option.some.inj (gA.symm.trans hg0)
  obtain rfl := Option.some.inj (gAType.symm.trans ht0)
  obtain rfl := Option.some.inj (gB.symm.trans hg1)
  obtain rfl := Option.some.inj (gBType.symm.trans ht1)
  obtain rfl := Option.some.inj (gC.symm.trans hg2)
  obtain rfl := Option.some.inj (gCType.symm.trans ht2)
  obtain rfl := Option.some.inj (g5.symm.trans hg3)
  obtain rfl := Option.some.inj (t5.symm.trans ht3)
  obtain rfl := Option.some.inj (g6.symm.trans hg4)
  obtain rfl := Option.some.inj (t6.symm.trans ht4)
  refine ⟨⟨?_, ?_, ?_⟩, ?_, ?_⟩
  · unfold Lib.TabIs
    rw [hv0, ← Lib.cells_of_tab Tryd.underlying55 Tryd.underlying5 cells5 cells55 hd0]
  · unfold Lib.TabIs
    rw [hv1, ← Lib.cells_of_tab Tryd.underlying23 Tryd.underlying5 cells5 cells23 hd1]
  · unfold Lib.TabIs
    rw [hv2, ← Lib.cells_of_tab Tryd.underlying58 Tryd.underlying5 cells5 cells58 hd2]
  · unfold Lib.TabIs
    rw [hv3, ← Lib.cells_of_tab Tryd.underlying74 Tryd.underlying73 cells73 cells74 hd3]
  · unfold Lib.TabIs
    rw [hv4, ← Lib.cells_of_tab Tryd.underlying81 Tryd.underlying73 cells73 cells81 hd4]
theorem tbx_of_laid {W : World} (h : laidMetH Tryd.prog laid5 W) : Sha.Tb W ∧ Tx W := by
  obtain ⟨⟨ha, hb, hc⟩, hs, hr⟩ := tabs5 h
  have A : ∀ j, j < 16 → W.cell? ⟨0, j, none⟩ = some (.int .u8 ((g16 j : Nat) : Int)) := fun j hj => by have := ha.cell gA j hj; rw [zs_getD] at this; exact this
  have B : ∀ j, j < 32 → W.cell? ⟨1, j, none⟩ = some (.int .u8 ((g32 j : Nat) : Int)) := fun j hj => by have := hb.cell gB j hj; rw [zs_getD] at this; exact this
  have C : ∀ j, j < 64 → W.cell? ⟨2, j, none⟩ = some (.int .u8 ((g64 j : Nat) : Int)) := fun j hj => by have := hc.cell gC j hj; rw [zs_getD] at this; exact this
  have D : ∀ j, j < 8 → W.cell? ⟨5, j, none⟩ = some (.int .u32 ((Sha.startN.getD j 0 : Nat) : Int)) := fun j hj => by have := hs.cell g5 j hj; rw [zs_getD] at this; exact this
  have E : ∀ j, j < 64 → W.cell? ⟨6, j, none⟩ = some (.int .u32 ((Sha.roundN.getD j 0 : Nat) : Int)) := fun j hj => by have := hr.cell g6 j hj; rw [zs_getD] at this; exact this
  have hsz : 6 < W.heap.size := by
    have h2 := E 0 (by decide)
    rcases Nat.lt_or_ge 6 W.heap.size with h | h
    · exact h
    · simp [World.cell?, Array.getElem?_eq_none h] at h2
  exact ⟨⟨hsz, D, E⟩, ⟨by omega, A, B, C⟩⟩
/-- A block's words, laid anew. -/
def laidW (l : List Int) : Obj → Obj
  | .cells _ t frozen => .cells (l.map (Value.int .u32)).toArray t frozen
  | o => o
/-- A world for the witness. -/
noncomputable def laidWorldL (os : Os) : World :=
  { World.holding Tryd.prog os ⟨#[], #[], []⟩ with heap := (((((World.holding Tryd.prog os ⟨#[], #[], []⟩).heap.modify 0 (laidCells (zs D16))).modify 1 (laidCells (zs D32))).modify 2 (laidCells (zs D64))).modify 5 (laidW (zs Sha.startN))).modify 6 (laidW (zs Sha.roundN)) }
theorem cells22 : Tryd.prog.cellsOf 22 = 1 := by kernel_rfl
theorem flat_le {H α : Type} (f : α → List Nat) (g : α → DataW H) : ∀ l : List α, (∀ x ∈ l, (f x).length ≤ Rows.uptoBulk (g x)) → ((l.map f).flatten).length ≤ Rows.uptoBulkAll (l.map g)
  | [], _ => by simp
  | x :: r, h => by
    have h1 := flat_le f g r (fun y hy => h y (List.mem_cons_of_mem _ hy))
    have h2 := h x (by simp)
    simp only [List.map_cons, List.flatten_cons, List.length_append, Rows.uptoBulkAll]
    omega
theorem open_byz {H : Type} {enc : TypeId × Value → H} {W : World} {n : Nat} {v : Value} {D : DataW H} {Pl : List MemPlace} (h : DataW.trod enc Tryd.prog W 0 (fun _ => true) true n 22 [v] = some (D, Pl)) :
    ∃ d : List Nat, Sha.Byz v d W ∧ Byt d ∧ d.length ≤ Rows.uptoBulk D := by
  rcases open_ints Tryd.underlying22 Tryd.underlying5 cells5 h with ⟨hcs, hx⟩ | ⟨a, len, cap, zs, hcs, _, hl, hm, hz, hx, hcell, hwz⟩
  · obtain rfl : v = .slice none 0 0 := by simpa using hcs
    exact ⟨[], .inl (.inl ⟨rfl, rfl⟩), (fun x hx => by cases hx), by simp⟩
  · obtain rfl : v = .slice (some a) len cap := by simpa using hcs
    simp only [if_true] at hz
    simp only [Prod.mk.injEq] at hx
    by_cases h0 : zs.length = 0
    · obtain rfl : cap = 0 := by omega
      obtain rfl : len = 0 := by omega
      exact ⟨[], .inr ⟨some a, rfl, rfl⟩, (fun x hx => by cases hx), by simp⟩
    · obtain ⟨b, off, rfl, hc⟩ := ints_at hcell (by omega)
      have hw : ∀ z ∈ zs, 0 ≤ z ∧ z < 256 := fun z hz => wf_byte (hwz z hz)
      have hll : ((zs.take len).map Int.toNat).length = len := by rw [List.length_map, List.length_take]; omega
      have hblk : b < W.heap.size := World.block_lt_of_cell? W ⟨b, off + 0, none⟩ (hc 0 (by omega))
      refine ⟨(zs.take len).map Int.toNat, .inl (.inr ⟨b, off, cap, by rw [hll], by omega, hm, hblk, fun j hj => ?_⟩), ?_, ?_⟩
      · rw [hll] at hj
        have hj2 : j < zs.length := by omega
        rw [hc j hj2]
        have h2 : zs.getD j 0 = zs[j] := by simp [List.getD, hj2]
        have h3 : ((zs.take len).map Int.toNat).getD j 0 = zs[j].toNat := by simp [List.getD, hj, hj2]
        rw [h2, h3, Int.toNat_of_nonneg (hw _ (List.getElem_mem hj2)).1]
      · intro x hx
        obtain ⟨z, hz, rfl⟩ := List.mem_map.1 hx
        have := hw z (List.mem_of_mem_take hz)
        omega
      · rw [hll, hx.1]
        have h4 := length_le (lits (H := H) .u8 (zs.take len))
        have h5 : (lits (H := H) .u8 (zs.take len)).length = len := by simp [lits]; omega
        simp only [Rows.uptoBulk]
        omega
theorem open_pcz {H : Type} {enc : TypeId × Value → H} {W : World} {base : Nat} {v : Value} {d : DataW H} {p : List MemPlace} (hv : Value.okWide Tryd.prog W .any base 40 v) (h : DataW.Trod enc Tryd.prog W 0 (fun _ => true) true 40 v d p) :
    ∃ ds : List (List Nat), Sha.Pcz v ds W ∧ (∀ l ∈ ds, Byt l) ∧ ds.flatten.length ≤ Rows.uptoBulk d ∧ ds.length ≤ Rows.uptoBulk d := by
  obtain ⟨a0, len, cap, rfl⟩ := okWide_slice Tryd.underlying40 hv
  obtain ⟨fuel, hf⟩ := h
  rcases Go.Deep.open_slice1 Tryd.underlying40 cells22 hf with ⟨hcs, hx⟩ | ⟨a, len', cap', m, n, V, D, Pl, hcs, _, hl, hm, hmm, hx, hi⟩
  · simp [Value.cells] at hcs
    obtain ⟨rfl, rfl, rfl⟩ := hcs
    exact ⟨[], .inl ⟨rfl, rfl⟩, (fun x hx => by cases hx), by simp, by simp⟩
  · simp [Value.cells] at hcs
    obtain ⟨rfl, rfl, rfl⟩ := hcs
    simp only [Value.okWide, Tryd.underlying40, Cell.okWide, Cell.ok] at hv
    obtain ⟨_, _, _, hspot, row, cells, hsh, _⟩ := hv
    have hblk : a.block < W.heap.size := by
      rcases Nat.lt_or_ge a.block W.heap.size with h | h
      · exact h
      · simp [World.shape?, Array.getElem?_eq_none h] at hsh
    obtain ⟨b, off, spot⟩ := a
    simp only at hspot hblk
    subst hspot
    simp only [if_true] at hmm
    subst hmm
    have hch : ∀ i, ∃ d : List Nat, i < m → Sha.Byz (V i) d W ∧ Byt d ∧ d.length ≤ Rows.uptoBulk (D i) := fun i => by
      by_cases him : i < m
      · obtain ⟨d, h1⟩ := open_byz (hi i him).2
        exact ⟨d, fun _ => h1⟩
      · exact ⟨[], fun h => absurd h him⟩
    obtain ⟨f, hf2⟩ := Classical.axiomOfChoice hch
    have hln : ((List.range len).map f).length = len := by simp
    simp only [Prod.mk.injEq] at hx
    refine ⟨(List.range len).map f, .inr ⟨b, off, m, (List.range len).map V, by rw [hln], by omega, hm, hblk, by simp, fun j hj => ?_, fun j h1 h2 => ?_⟩, ?_, ?_, ?_⟩
    · have hj2 : j < len := by simpa using hj
      have h1 := (hi j (by omega)).1
      rw [Go.WideShapes.add_plain] at h1
      rw [h1]
      simp
    · have hj2 : j < len := by simpa using h1
      have := (hf2 j (by omega)).1
      simpa using this
    · intro l hl2
      obtain ⟨i, hi2, rfl⟩ := List.mem_map.1 hl2
      exact (hf2 i (by have := List.mem_range.1 hi2; omega)).2.1
    · have h1 := flat_le f D (List.range len) (fun i hi2 => (hf2 i (by have := List.mem_range.1 hi2; omega)).2.2)
      rw [hx.1]
      simp only [Rows.uptoBulk]
      omega
    · have h1 := length_le ((List.range len).map D)
      rw [hx.1, hln]
      simp only [Rows.uptoBulk]
      simp at h1
      omega
theorem contract (H : Type) (enc : TypeId × Value → H) (W : World) (base : Nat) (args : Array Value) (ds gs : List (DataW H)) (before : List MemPlace) (ht : Sha.Tb W) (hx : Tx W)
    (hval0 : ∀ (j : Nat) t v, Tryd.f7.params[j]? = some t → args[j]? = some v → Value.okWide Tryd.prog W .any base t v)
    (hW : DataW.Whole enc Tryd.prog Tryd.f7.params.toList Rows.digestLabelsSpec.vars false W args.toList ds gs before)
    (hk : Rows.uptoSmall H (ds ++ gs) = true) :
    Calls Tryd.prog 7 args W fun e W' => ∃ v, e = .returned v ∧ Rows.digestLabelsSpec.post enc Tryd.prog Tryd.f7 false true false false W args v W' := by
  have hval := hval0
  have hW' := hW
  obtain ⟨p, q, hA0, hV, rfl, hfz, hnd⟩ := hW
  have hA : DataW.TrodAll enc Tryd.prog W 0 (fun _ => true) true Tryd.f7.params.toList args.toList ds p := hA0
  rw [Tryd.params7] at hA hval
  obtain ⟨v0, v1, v2, v3, d0, d1, d2, d3, p0, p1, p2, p3, rfl, rfl, rfl, h0, h1, h2, h3⟩ := trodAll_four hA
  obtain ⟨rfl, rfl⟩ := trodVars_none hV
  obtain ⟨ds, y0, t0, l0, l1⟩ := open_pcz (hval 0 40 v0 rfl rfl) h0
  obtain ⟨x, rfl, rfl, rfl, wx⟩ := open_int Tryd.underlying3 (hval 1 3 v1 rfl rfl) h1
  obtain ⟨y, rfl, rfl, rfl, wy⟩ := open_int Tryd.underlying3 (hval 2 3 v2 rfl rfl) h2
  obtain ⟨z, rfl, rfl, rfl, wz⟩ := open_int Tryd.underlying5 (hval 3 5 v3 rfl rfl) h3
  clear hA0 hval0
  simp only [List.append_nil] at hW' hk
  have hb := part_le (l := [d0, DataW.lit (.int .i64 x), DataW.lit (.int .i64 y), DataW.lit (.int .u8 z)]) (d := d0) (by simp)
  have hbk : Rows.uptoBulkAll [d0, DataW.lit (.int .i64 x), DataW.lit (.int .i64 y), DataW.lit (.int .u8 z)] ≤ 1048576 := of_decide_eq_true hk
  have hlt : ∀ x ∈ p0, x.block < W.heap.size := fun x hx => by simpa using hW'.lt x (by simpa using hx)
  have hz : 0 ≤ z ∧ z < 256 := wf_byte wz
  obtain ⟨dg, rfl⟩ : ∃ dg : Nat, z = (dg : Int) := ⟨z.toNat, by omega⟩
  refine (Lbl.labels_any ds t0 (by omega) (by omega) x y dg (by omega) v0 W ht hx y0).mono fun e W' ⟨he, hbl⟩ => ?_
  subst he
  have harg0 := Below.trod laidOut (by kernel_rfl) (of_decide_eq_true (by kernel_rfl)) h0 hbl hlt
  exact ⟨_, rfl, _, _, _, [], _, [], hW', trodAll_mk1 (shut_bool Tryd.underlying4 _), trodAll_mk4 harg0 (shut_int Tryd.underlying3 wx) (shut_int Tryd.underlying3 wy) (shut_int Tryd.underlying5 wz), rfl, hbl.frame _, fun h => by cases h⟩

def wit : Array Value := #[.slice none 0 0, .int .i64 0, .int .i64 0, .int .u8 0]
theorem laid_met (os : Os) : laidMet Tryd.prog Rows.digestLabelsUptoRow.laid ((laidWorldL os).forCall (fun _ _ => 0) ⟨#[], wit, []⟩).memory :=
  laidMet_of_run' 8 (by kernel_rfl) (by kernel_rfl)
theorem reads (os : Os) {H : Type} (enc : TypeId × Value → H) : ∃ places, DataW.whole enc Tryd.prog ((laidWorldL os).forCall (fun _ _ => 0) ⟨#[], wit, []⟩).memory Tryd.f7.params.toList Rows.digestLabelsSpec.vars false wit.toList 8 = some ([.nil, .lit (.int .i64 0), .lit (.int .i64 0), .lit (.int .u8 0)], [], places) :=
  ⟨[], by kernel_rfl⟩
set_option maxRecDepth 100000 in
theorem lifted (os : Os) (started : os.Started) (H : Type) (enc : TypeId × Value → H) (F : Stop.Interp) :
    ReturnsInHanded {} Tryd.checked os 7 .any ((Rows.OpenSpec.upto Rows.digestLabelsSpec).preRow enc Tryd.prog Tryd.f7 Rows.digestLabelsUptoRow.domain false Rows.digestLabelsUptoRow.laid) (((Rows.OpenSpec.upto Rows.digestLabelsSpec).at F).post enc Tryd.prog Tryd.f7 false true false false) := by
  obtain ⟨places, hx⟩ := reads os enc
  refine returnsInHanded_of_row (C := Tryd.checked) (s := Rows.OpenSpec.upto Rows.digestLabelsSpec) own started (by kernel_rfl) Tryd.func7
    (witness_row_at (enc := enc) (C := Tryd.checked) false (laidWorldL os) wit rfl (by kernel_rfl) (by kernel_rfl) (by kernel_rfl)
      (OpenSpec.preRow_of_cond 8 hx (by kernel_rfl) (fun k hk => by cases hk; kernel_rfl) (by kernel_rfl) (laid_met os))) ?_
  intro W base args ds gs before hval hW _ hcond _ hL _ _
  exact contract H enc W base args ds gs before (tbx_of_laid hL).1 (tbx_of_laid hL).2 hval hW (hcond _ rfl)
theorem said : Rows.DigestLabelsUptoSaid :=
  OpenClaim.holds_of_cond 7 Tryd.f7 rfl rfl rfl rfl rfl rfl rfl ⟨rfl, rfl, rfl, rfl, rfl⟩ rfl rfl rfl rfl rfl (by kernel_rfl) Tryd.func7 (by kernel_rfl)
    (of_decide_eq_true (by kernel_rfl)) (by unfold Func.isWrapper; first | (rw [if_pos (by decide +kernel)]; kernel_rfl) | (rw [if_neg (by decide +kernel)]; exact ⟨rfl, rfl⟩))
    (fun os started H enc _ F => by rw [OpenClaim.pre_eq_preRow]; exact lifted os started H enc F)
theorem plain (f : FuncId) (fn : Func) (hf : Tryd.pinned.checked.prog.funcNamed "graft/graftlaw1.DigestLabels" = some f) (hfn : Tryd.pinned.checked.prog.funcs[f]? = some fn) :
    false = Tryd.pinned.checked.prog.looks [] ∧ ∀ (j : Nat) t, fn.params[j]? = some t → Tryd.pinned.checked.prog.wantsStandIn t = false := by
  obtain rfl : f = 7 := Option.some.inj ((show Tryd.prog.funcNamed "graft/graftlaw1.DigestLabels" = some 7 by kernel_rfl).symm.trans hf) |>.symm
  obtain rfl : fn = Tryd.f7 := (Option.some.inj (Tryd.func7.symm.trans hfn)).symm
  refine ⟨by kernel_rfl, fun j t ht => ?_⟩
  rw [Tryd.params7] at ht
  match j, ht with
  | 0, h =>
    obtain rfl := (Option.some.inj h).symm
    exact (by kernel_rfl : Tryd.prog.wantsStandIn 40 = false)
  | 1, h =>
    obtain rfl := (Option.some.inj h).symm
    exact (by kernel_rfl : Tryd.prog.wantsStandIn 3 = false)
  | 2, h =>
    obtain rfl := (Option.some.inj h).symm
    exact (by kernel_rfl : Tryd.prog.wantsStandIn 3 = false)
  | 3, h =>
    obtain rfl := (Option.some.inj h).symm
    exact (by kernel_rfl : Tryd.prog.wantsStandIn 5 = false)
  | j + 4, h => simp at h
end Go.Proofs.YtkppejaigodgiabDoor.DLabels
namespace Go.Proofs.YtkppejaigodgiabDoor
theorem digestLabels_card : Rows.DigestLabelsUptoCardSaid :=
  Claim7.holds_tied_plain_at .later [] _ _ _ _ DLabels.said (fun _ h => by cases h) (by kernel_rfl) (fun _ h => by cases h) digestLabelsUpto_row_tie rfl ⟨rfl, rfl⟩ (by kernel_rfl) rfl DLabels.plain (by kernel_rfl)
#print axioms digestLabels_card
end Go.Proofs.YtkppejaigodgiabDoor
