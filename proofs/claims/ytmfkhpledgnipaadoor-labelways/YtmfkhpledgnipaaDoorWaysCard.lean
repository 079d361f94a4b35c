/- LabelWays: the row and the card. -/
import Derived.Test.YtmfkhpledgnipaaDoorWaysG
import Derived.Test.YtmfkhpledgnipaaDoorWaysL
import Derived.Test.YtmfkhpledgnipaaDoorLabArg
import Derived.SliceStrings
namespace Go.Proofs.YtmfkhpledgnipaaDoor.DWays
open Go.ChangeShapes Go.WideShapes Go.ChangeAt Go.RowKit
theorem open_stl {H : Type} {enc : TypeId × Value → H} {W : World} {base : Nat} {v : Value} {d : DataW H} {p : List MemPlace} (hv : Value.okWide Tryd.prog W .any base 37 v) (h : DataW.Trod enc Tryd.prog W 0 (fun _ => true) true 37 v d p) :
    ∃ l : List (List UInt8), Stl v l W ∧ ∀ t ∈ l, t.length ≤ 9223372036854775807 := by
  obtain ⟨a0, len, cap, rfl⟩ := okWide_slice Tryd.underlying37 hv
  obtain ⟨fuel, hf⟩ := h
  rcases open_strings Tryd.underlying37 Tryd.underlying9 cells9 hf with ⟨hcs, hx⟩ | ⟨a, len', cap', ss, hcs, _, hl, hm, hz, hx, hcell, hsz⟩
  · simp [Value.cells] at hcs
    obtain ⟨rfl, rfl, rfl⟩ := hcs
    exact ⟨[], ⟨none, 0, rfl, Nat.le_refl _, by omega, fun h => by simp at h⟩, (fun x hx => by cases hx)⟩
  · simp [Value.cells] at hcs
    obtain ⟨rfl, rfl, rfl⟩ := hcs
    simp only [Value.okWide, Tryd.underlying37, Cell.okWide, Cell.ok] at hv
    obtain ⟨_, _, _, hspot, row, cells, hsh, _⟩ := hv
    have hblk : a.block < W.heap.size := by
      rcases Nat.lt_or_ge a.block W.heap.size with h | h
      · exact h
      · simp [World.shape?, Array.getElem?_eq_none h] at hsh
    obtain ⟨b, off, spot⟩ := a
    simp only at hspot hblk
    subst hspot
    simp only [if_true] at hz
    have hll : ((ss.take len).map (fun s : ByteArray => s.data.toList)).length = len := by rw [List.length_map, List.length_take]; omega
    refine ⟨(ss.take len).map (fun s : ByteArray => s.data.toList), ⟨some ⟨b, off, none⟩, cap, by rw [hll], by omega, by unfold maxLen at hm; omega, fun _ => ⟨b, off, rfl, hblk, fun j hj => ?_⟩⟩, ?_⟩
    · rw [hll] at hj
      have hj2 : j < ss.length := by omega
      have h1 := hcell j hj2
      rw [Go.WideShapes.add_plain] at h1
      rw [h1]
      simp [List.getD, hj, hj2, ofL_data]
    · intro t ht
      obtain ⟨s, hs, rfl⟩ := List.mem_map.1 ht
      have := hsz s (List.mem_of_mem_take hs)
      rw [Array.length_toList]
      show s.size ≤ _
      unfold maxLen at this
      omega
theorem ways_any (h : List Nat) (hb : Byt h) (hl : h.length = 20) (nm : ByteArray) (st : Value) (L : List (List UInt8)) (hLs : ∀ t ∈ L, t.length ≤ 9223372036854775807) (bad : Int) (w : World) (ht : Tx w) (hst : Stl st L w) :
    Calls Tryd.prog 4 #[.agg (lab h nm), st, .int .i64 bad] w fun e w' => e = .returned (.bool true) ∧ Below w.heap.size w w' := by
  by_cases hok : okN nm = 0
  · rcases Nat.lt_or_ge 40 L.length with hg | hg
    · exact ways_gt h hb hl nm hok st L hg hLs bad w ht hst
    · exact ways_le h hb hl nm hok st L hg hLs bad w ht hst
  · exact ways_bad h hb hl nm hok st bad w ht
theorem contract (H : Type) (enc : TypeId × Value → H) (W : World) (base : Nat) (args : Array Value) (ds gs : List (DataW H)) (before : List MemPlace) (ht : Tx W)
    (hval0 : ∀ (j : Nat) t v, Tryd.f4.params[j]? = some t → args[j]? = some v → Value.okWide Tryd.prog W .any base t v)
    (hW : DataW.Whole enc Tryd.prog Tryd.f4.params.toList Rows.labelWaysSpec.vars false W args.toList ds gs before) :
    Calls Tryd.prog 4 args W fun e W' => ∃ v, e = .returned v ∧ Rows.labelWaysSpec.post enc Tryd.prog Tryd.f4 false true false false W args v W' := by
  have hval := hval0
  have hW' := hW
  obtain ⟨p, q, hA0, hV, rfl, hfz, hnd⟩ := hW
  have hA : DataW.TrodAll enc Tryd.prog W 0 (fun _ => true) true Tryd.f4.params.toList args.toList ds p := hA0
  rw [Tryd.params4] at hA hval
  obtain ⟨v0, v1, v2, d0, d1, d2, p0, p1, p2, rfl, rfl, rfl, h0, h1, h2⟩ := trodAll_three hA
  obtain ⟨rfl, rfl⟩ := trodVars_none hV
  obtain ⟨h, s, hl, hb, hs, rfl, rfl, rfl⟩ := open_lab (hval 0 25 v0 rfl rfl) h0
  obtain ⟨L, hst, hLs⟩ := open_stl (hval 1 37 v1 rfl rfl) h1
  obtain ⟨f, rfl, rfl, rfl, hwf⟩ := open_int Tryd.underlying3 (hval 2 3 v2 rfl rfl) h2
  clear hA0 hval0
  simp only [List.append_nil, List.nil_append] at hW'
  have hlt : ∀ x ∈ p1, x.block < W.heap.size := fun x hx => by simpa using hW'.lt x (by simpa using hx)
  refine (ways_any h hb hl s v1 L hLs f W ht hst).mono fun e W' ⟨he, hbl⟩ => ?_
  subst he
  have harg1 := Below.trod laidOut (by kernel_rfl) (of_decide_eq_true (by kernel_rfl)) h1 hbl hlt
  exact ⟨_, rfl, _, _, _, [], _, [], hW', trodAll_mk1 (shut_bool Tryd.underlying4 _), trodAll_mk3 (shut_lab h s hl hb hs) harg1 (shut_int Tryd.underlying3 hwf), rfl, hbl.frame _, fun h => by cases h⟩
def wit : Array Value := #[.agg (lab z20 ⟨#[]⟩), .slice none 0 0, .int .i64 0]
theorem laid_met (os : Os) : laidMet Tryd.prog Rows.labelWaysRow.laid ((laidWorld os).forCall (fun _ _ => 0) ⟨#[], wit, []⟩).memory :=
  laidMet_of_run' 8 (by kernel_rfl) (by kernel_rfl)
theorem reads (os : Os) {H : Type} (enc : TypeId × Value → H) : ∃ places, DataW.whole enc Tryd.prog ((laidWorld os).forCall (fun _ _ => 0) ⟨#[], wit, []⟩).memory Tryd.f4.params.toList Rows.labelWaysSpec.vars false wit.toList 8 = some ([dlab z20 ⟨#[]⟩, .nil, .lit (.int .i64 0)], [], places) :=
  ⟨[], by kernel_rfl⟩
set_option maxRecDepth 100000 in
theorem lifted (os : Os) (started : os.Started) (H : Type) (enc : TypeId × Value → H) (F : Stop.Interp) :
    ReturnsInHanded {} Tryd.checked os 4 .any ((OpenSpec.ofChange Rows.labelWaysSpec).preRow enc Tryd.prog Tryd.f4 Rows.labelWaysRow.domain false Rows.labelWaysRow.laid) (((OpenSpec.ofChange Rows.labelWaysSpec).at F).post enc Tryd.prog Tryd.f4 false true false false) := by
  obtain ⟨places, hx⟩ := reads os enc
  refine returnsInHanded_of_row (C := Tryd.checked) (s := OpenSpec.ofChange Rows.labelWaysSpec) own started (by kernel_rfl) Tryd.func4
    (witness_row_at (enc := enc) (C := Tryd.checked) false (laidWorld os) wit rfl (by kernel_rfl) (by kernel_rfl) (by kernel_rfl)
      (OpenSpec.preRow_of_cond 8 hx (by kernel_rfl) (fun k hk => by cases hk) (by kernel_rfl) (laid_met os))) ?_
  intro W base args ds gs before hval hW _ _ _ hL _ _
  exact contract H enc W base args ds gs before (tx_of_laid hL) hval hW
theorem said : Rows.LabelWaysSaid :=
  OpenClaim.holds_of_cond 4 Tryd.f4 rfl rfl rfl rfl rfl rfl rfl ⟨rfl, rfl, rfl, rfl, rfl⟩ rfl rfl rfl rfl rfl (by kernel_rfl) Tryd.func4 (by kernel_rfl)
    (of_decide_eq_true (by kernel_rfl)) (by unfold Func.isWrapper; first | (rw [if_pos (by decide +kernel)]; kernel_rfl) | (rw [if_neg (by decide +kernel)]; exact ⟨rfl, rfl⟩))
    (fun os started H enc _ F => by rw [OpenClaim.pre_eq_preRow]; exact lifted os started H enc F)
theorem plain (f : FuncId) (fn : Func) (hf : Tryd.pinned.checked.prog.funcNamed "graft/graftlaw2.LabelWays" = some f) (hfn : Tryd.pinned.checked.prog.funcs[f]? = some fn) :
    false = Tryd.pinned.checked.prog.looks [] ∧ ∀ (j : Nat) t, fn.params[j]? = some t → Tryd.pinned.checked.prog.wantsStandIn t = false := by
  obtain rfl : f = 4 := Option.some.inj ((show Tryd.prog.funcNamed "graft/graftlaw2.LabelWays" = some 4 by kernel_rfl).symm.trans hf) |>.symm
  obtain rfl : fn = Tryd.f4 := (Option.some.inj (Tryd.func4.symm.trans hfn)).symm
  refine ⟨by kernel_rfl, fun j t ht => ?_⟩
  rw [Tryd.params4] at ht
  match j, ht with
  | 0, h =>
    obtain rfl := (Option.some.inj h).symm
    exact (by kernel_rfl : Tryd.prog.wantsStandIn 25 = false)
  | 1, h =>
    obtain rfl := (Option.some.inj h).symm
    exact (by kernel_rfl : Tryd.prog.wantsStandIn 37 = false)
  | 2, h =>
    obtain rfl := (Option.some.inj h).symm
    exact (by kernel_rfl : Tryd.prog.wantsStandIn 3 = false)
  | j + 3, h => simp at h
end Go.Proofs.YtmfkhpledgnipaaDoor.DWays
namespace Go.Proofs.YtmfkhpledgnipaaDoor
theorem labelWays_card : Rows.LabelWaysCardSaid :=
  Claim7.holds_tied_plain_at .later [] _ _ _ _ DWays.said (fun _ h => by cases h) (by kernel_rfl) (fun _ h => by cases h) labelWays_row_tie rfl ⟨rfl, rfl⟩ (by kernel_rfl) rfl DWays.plain (by kernel_rfl)
#print axioms labelWays_card
end Go.Proofs.YtmfkhpledgnipaaDoor
