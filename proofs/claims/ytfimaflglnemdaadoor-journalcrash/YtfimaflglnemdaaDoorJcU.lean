/- JournalCrash: the row and the card, first form. -/
import Derived.Test.YtfimaflglnemdaaDoorJcT
import Derived.Test.YtfimaflglnemdaaDoorJzK
namespace Go.Proofs.YtfimaflglnemdaaDoor.DCrash
open Go.ChangeShapes Go.WideShapes Go.ChangeAt Go.RowKit Go.Proofs.YtfimaflglnemdaaDoor.DJ
theorem cellsI : Tryd.prog.cellsOf 3 = 1 := by kernel_rfl
theorem cellsSs : Tryd.prog.cellsOf 33 = 1 := by kernel_rfl
theorem cellsK2 : Tryd.prog.cellsOf 34 = 2 := by kernel_rfl
theorem cellsLf : Tryd.prog.cellsOf 36 = 5 := by kernel_rfl
section
variable {H : Type} {enc : TypeId × Value → H} {W : World} {base fuel : Nat} {sp : Nat → Bool} {held : Bool} {v : Value} {x : DataW H × List MemPlace}
set_option maxRecDepth 100000 in
theorem open_life {c : Array Value} (hc : c.size = 5) (h : DataW.trod enc Tryd.prog W base sp held fuel 36 c.toList = some x) (hw : (DataW.weights Tryd.prog 36 x.1).all (· ≤ reachBytes) = true) : ∃ (l a k0 k1 : Int) (u : Value) (ss : List (Bool × List (List Nat))), c = #[.int .i64 l, u, .int .i64 a, .int .i64 k0, .int .i64 k1] ∧ Ss W u ss := by
  obtain ⟨xs, n, rfl, hx, hlen, hxl, hfe⟩ := DataW.trod_struct Tryd.underlying36 h
  have hxl2 : xs.length = 4 := hxl
  have g0 := hfe 0 _ rfl
  have g1 := hfe 1 _ rfl
  have g2 := hfe 2 _ rfl
  have g3 := hfe 3 _ rfl
  rw [List.getElem?_eq_getElem (by omega)] at g0 g1 g2 g3
  obtain ⟨v0, v1, v2, v3, v4, rfl⟩ : ∃ v0 v1 v2 v3 v4, c = #[v0, v1, v2, v3, v4] := by
    obtain ⟨l⟩ := c
    match l, hc with
    | [v0, v1, v2, v3, v4], _ => exact ⟨v0, v1, v2, v3, v4, rfl⟩
  have g0 : DataW.trod enc Tryd.prog W base sp held n 3 (([v0, v1, v2, v3, v4].drop 0).take (Tryd.prog.cellsOf 3)) = some xs[0] := g0
  have g1 : DataW.trod enc Tryd.prog W base sp held n 33 (([v0, v1, v2, v3, v4].drop 1).take (Tryd.prog.cellsOf 33)) = some xs[1] := g1
  have g2 : DataW.trod enc Tryd.prog W base sp held n 3 (([v0, v1, v2, v3, v4].drop 2).take (Tryd.prog.cellsOf 3)) = some xs[2] := g2
  have g3 : DataW.trod enc Tryd.prog W base sp held n 34 (([v0, v1, v2, v3, v4].drop 3).take (Tryd.prog.cellsOf 34)) = some xs[3] := g3
  rw [cellsI] at g0 g2
  rw [cellsSs] at g1
  rw [cellsK2] at g3
  obtain ⟨x0, x1, x2, x3, rfl⟩ : ∃ x0 x1 x2 x3, xs = [x0, x1, x2, x3] := by
    match xs, hxl2 with
    | [x0, x1, x2, x3], _ => exact ⟨x0, x1, x2, x3, rfl⟩
  obtain ⟨l, e0, -, -⟩ := DataW.trod_int Tryd.underlying3 g0
  obtain ⟨a, e2, -, -⟩ := DataW.trod_int Tryd.underlying3 g2
  have e0 : v0 = .int .i64 l := by simpa using e0
  have e2 : v2 = .int .i64 a := by simpa using e2
  have g3 : DataW.trod enc Tryd.prog W base sp held n 34 [v3, v4] = some x3 := g3
  obtain ⟨ys, m, hm, hy, hyl2, hyl, hya⟩ := DataW.trod_array Tryd.underlying34 g3
  have a0 := hya 0 (by omega)
  have a1 := hya 1 (by omega)
  rw [cellsI, List.getElem?_eq_getElem (by omega)] at a0 a1
  obtain ⟨k0, e3, -, -⟩ := DataW.trod_int Tryd.underlying3 a0
  obtain ⟨k1, e4, -, -⟩ := DataW.trod_int Tryd.underlying3 a1
  have e3 : v3 = .int .i64 k0 := by simpa using e3
  have e4 : v4 = .int .i64 k1 := by simpa using e4
  have hw1 : (DataW.weights Tryd.prog 33 x1.1).all (· ≤ reachBytes) = true := by
    rw [hx] at hw
    simp only [DataW.weights, Tryd.underlying36] at hw
    have hw : (DataW.weightsEach Tryd.prog [3, 33, 3, 34] [x0.1, x1.1, x2.1, x3.1]).all (· ≤ reachBytes) = true := hw
    simp only [DataW.weightsEach, List.all_append, Bool.and_eq_true] at hw
    exact hw.2.1
  obtain ⟨ss, hss⟩ := open_steps (v := v1) (by simpa using g1) hw1
  exact ⟨l, a, k0, k1, v1, ss, by rw [e0, e2, e3, e4], hss⟩
theorem open_lives (h : DataW.trod enc Tryd.prog W base sp held fuel 22 [v] = some x) (hw : (DataW.weights Tryd.prog 22 x.1).all (· ≤ reachBytes) = true) : ∃ n, Dev.Lvs W v n := by
  obtain ⟨l, ⟨oa, cap, rfl, h1, h2, h3⟩, -, h4⟩ := open_rows (by decide) Tryd.underlying22 cellsLf h
  refine ⟨l.length, oa, cap, rfl, fun i hi => ?_⟩
  obtain ⟨g, o, q1, q2, q3, q4⟩ := h3 i l[i] (List.getElem?_eq_getElem hi)
  obtain ⟨m, y, -, hy, hm⟩ := h4 l[i] (List.getElem_mem hi)
  obtain ⟨lm, a, k0, k1, u, ss, e, hss⟩ := open_life q3 hy (slice_mem Tryd.underlying22 hw hm)
  have hl : l[i].toList = [.int .i64 lm, u, .int .i64 a, .int .i64 k0, .int .i64 k1] := congrArg Array.toList e
  have a0 := q4 0 (.int .i64 lm) (by rw [hl]; rfl)
  have a1 := q4 1 u (by rw [hl]; rfl)
  have a2 := q4 2 (.int .i64 a) (by rw [hl]; rfl)
  have a3 := q4 3 (.int .i64 k0) (by rw [hl]; rfl)
  have a4 := q4 4 (.int .i64 k1) (by rw [hl]; rfl)
  exact ⟨g, o, lm, a, k0, k1, u, ss, q1, by simpa using a0, a1, a2, a3, a4, hss⟩
end
set_option maxRecDepth 100000 in
theorem contract (H : Type) (enc : TypeId × Value → H) (W : World) (base : Nat) (args : Array Value) (ds gs : List (DataW H)) (before : List MemPlace) (ht : Tc W)
    (hval0 : ∀ (j : Nat) t v, (Tryd.f3).params[j]? = some t → args[j]? = some v → Value.okWide Tryd.prog W .any base t v)
    (hW : DataW.Whole enc Tryd.prog (Tryd.f3).params.toList Rows.journalCrashSpec.vars false W args.toList ds gs before)
    (hsz0 : (DataW.weightsEach Tryd.prog ((Tryd.f3).params.toList ++ Rows.journalCrashSpec.plain.varTypes Tryd.prog) (ds ++ gs)).all (· ≤ reachBytes) = true) :
    Calls Tryd.prog 3 args W fun e W' => ∃ v, e = .returned v ∧ Rows.journalCrashSpec.post enc Tryd.prog (Tryd.f3) false true false false W args v W' := by
  have hval := hval0
  have hsz := hsz0
  have hW' := hW
  obtain ⟨p, q, hA0, hV, rfl, hfz, hnd⟩ := hW
  have hA : DataW.TrodAll enc Tryd.prog W 0 (fun _ => true) true (Tryd.f3).params.toList args.toList ds p := hA0
  rw [(Tryd.params3)] at hA hval hsz
  obtain ⟨v0, d0, rfl, rfl, h0⟩ := trodAll_one hA
  obtain ⟨rfl, rfl⟩ := trodVars_none hV
  clear hA0 hval0
  obtain ⟨a0, len, cap, rfl⟩ := okWide_slice Tryd.underlying22 (hval 0 22 v0 rfl rfl)
  obtain ⟨fuel, hf⟩ := id h0
  have hf : DataW.trod enc Tryd.prog W 0 (fun _ => true) true fuel 22 [.slice a0 len cap] = some (d0, p) := hf
  have hsz : (DataW.weightsEach Tryd.prog (22 :: []) (d0 :: [])).all (· ≤ reachBytes) = true := hsz
  obtain ⟨n, hss⟩ := open_lives hf (all_left hsz)
  simp only [List.append_nil] at hW'
  have hlt0 : ∀ x ∈ p, x.block < W.heap.size := fun x hx => by simpa using hW'.lt x (by simp [hx])
  refine (Dev.crash_any W hss ht).mono fun e W' ⟨he, hbl⟩ => ?_
  subst he
  have harg0 := Below.trod laidOut (by kernel_rfl) (of_decide_eq_true (by kernel_rfl)) h0 hbl hlt0
  exact ⟨_, rfl, _, _, _, [], _, [], hW', trodAll_mk1 (shut_bool Tryd.underlying4 _), trodAll_mk1 harg0, rfl, hbl.frame _, fun h => by cases h⟩
def wit : Array Value := #[.slice none 0 0]
theorem laid_met (os : Os) : laidMet Tryd.prog Rows.journalCrashRow.laid ((laidWorld os).forCall (fun _ _ => 0) ⟨#[], wit, []⟩).memory :=
  laidMet_of_run' 8 (by kernel_rfl) (by kernel_rfl)
theorem reads (os : Os) {H : Type} (enc : TypeId × Value → H) : ∃ places, DataW.whole enc Tryd.prog ((laidWorld os).forCall (fun _ _ => 0) ⟨#[], wit, []⟩).memory (Tryd.f3).params.toList Rows.journalCrashSpec.vars false wit.toList 8 = some ([.nil], [], places) :=
  ⟨[], by kernel_rfl⟩
set_option maxRecDepth 100000 in
theorem lifted (os : Os) (started : os.Started) (H : Type) (enc : TypeId × Value → H) (F : Stop.Interp) :
    ReturnsInHanded {} Tryd.checked os 3 .any ((OpenSpec.ofChange Rows.journalCrashSpec).preRow enc Tryd.prog (Tryd.f3) Rows.journalCrashRow.domain false Rows.journalCrashRow.laid) (((OpenSpec.ofChange Rows.journalCrashSpec).at F).post enc Tryd.prog (Tryd.f3) false true false false) := by
  obtain ⟨places, hx⟩ := reads os enc
  refine returnsInHanded_of_row (C := Tryd.checked) (s := OpenSpec.ofChange Rows.journalCrashSpec) own started (by kernel_rfl) (Tryd.func3)
    (witness_row_at (enc := enc) (C := Tryd.checked) false (laidWorld os) wit rfl (by kernel_rfl) (by kernel_rfl) (by kernel_rfl)
      (OpenSpec.preRow_of_cond 8 hx (by kernel_rfl) (fun k hk => by cases hk) (by kernel_rfl) (laid_met os))) ?_
  intro W base args ds gs before hval hW _ _ hsz hL _ _
  exact contract H enc W base args ds gs before (tc_of_laid hL) hval hW hsz
theorem said : Rows.JournalCrashSaid :=
  OpenClaim.holds_of_cond 3 (Tryd.f3) rfl rfl rfl rfl rfl rfl rfl ⟨rfl, rfl, rfl, rfl, rfl⟩ rfl rfl rfl rfl rfl (by kernel_rfl) (Tryd.func3) (by kernel_rfl)
    (of_decide_eq_true (by kernel_rfl)) (by unfold Func.isWrapper; first | (rw [if_pos (by decide +kernel)]; kernel_rfl) | (rw [if_neg (by decide +kernel)]; exact ⟨rfl, rfl⟩))
    (fun os started H enc _ F => by rw [OpenClaim.pre_eq_preRow]; exact lifted os started H enc F)
set_option maxRecDepth 100000 in
theorem plain (f : FuncId) (fn : Func) (hf : Tryd.pinned.checked.prog.funcNamed "graft/graftlaw11.JournalCrash" = some f) (hfn : Tryd.pinned.checked.prog.funcs[f]? = some fn) :
    true = Tryd.pinned.checked.prog.looks [] ∧ ∀ (j : Nat) t, fn.params[j]? = some t → Tryd.pinned.checked.prog.wantsStandIn t = false := by
  obtain rfl : f = 3 := Option.some.inj ((show Tryd.prog.funcNamed "graft/graftlaw11.JournalCrash" = some 3 by kernel_rfl).symm.trans hf) |>.symm
  obtain rfl : fn = (Tryd.f3) := (Option.some.inj ((Tryd.func3).symm.trans hfn)).symm
  refine ⟨by kernel_rfl, fun j t ht => ?_⟩
  rw [(Tryd.params3)] at ht
  match j, ht with
  | 0, h =>
    obtain rfl := (Option.some.inj h).symm
    exact (by kernel_rfl : Tryd.prog.wantsStandIn 22 = false)
  | j + 1, h => simp at h
end Go.Proofs.YtfimaflglnemdaaDoor.DCrash
namespace Go.Proofs.YtfimaflglnemdaaDoor
theorem journalCrash_card : Rows.JournalCrashCardSaid :=
  Claim7.holds_tied_plain_at .later [] _ _ _ _ DCrash.said (fun _ h => by cases h) (by kernel_rfl) (fun _ h => by cases h) journalCrash_row_tie rfl ⟨rfl, rfl⟩ (by kernel_rfl) rfl DCrash.plain (by kernel_rfl)
#print axioms journalCrash_card
end Go.Proofs.YtfimaflglnemdaaDoor
