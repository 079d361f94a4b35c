/- LabelMakes: the row and the card. -/
import Derived.Test.YteajpimonenopaaGreatDoorLmV
namespace Go.Proofs.YteajpimonenopaaGreatDoor.DLm
open Go.ChangeShapes Go.WideShapes Go.ChangeAt Go.RowKit
open Go.ChangeMaps (open_string shut_string)
set_option maxRecDepth 100000
theorem contract (H : Type) (enc : TypeId × Value → H) (W : World) (base : Nat) (args : Array Value) (ds gs : List (DataW H)) (before : List MemPlace) (hx : Tx W) (ht : Sha.Tb W) (hk : Tk W) (hr : Sha.Tr W)
    (hval0 : ∀ (j : Nat) t v, Tryz.f3.params[j]? = some t → args[j]? = some v → Value.okWide Tryz.prog W .any base t v)
    (hW : DataW.Whole enc Tryz.prog Tryz.f3.params.toList Rows.labelMakesSpec.vars false W args.toList ds gs before)
    (hup : Rows.uptoSmall H (ds ++ gs) = true) :
    Calls Tryz.prog 3 args W fun e W' => ∃ v, e = .returned v ∧ Rows.labelMakesSpec.post enc Tryz.prog Tryz.f3 false true false false W args v W' := by
  have hval := hval0
  have hW' := hW
  obtain ⟨p, q, hA0, hV, rfl, hfz, hnd⟩ := hW
  have hA : DataW.TrodAll enc Tryz.prog W 0 (fun _ => true) true Tryz.f3.params.toList args.toList ds p := hA0
  rw [Tryz.params3] at hA hval
  obtain ⟨v0, v1, v2, v3, v4, v5, v6, d0, d1, d2, d3, d4, d5, d6, p0, p1, p2, p3, p4, p5, p6, rfl, rfl, rfl, h0, h1, h2, h3, h4, h5, h6⟩ := trodAll_seven hA
  obtain ⟨rfl, rfl⟩ := trodVars_none hV
  obtain ⟨nm, rfl, rfl, rfl, hnm⟩ := open_string Tryz.underlying9 (hval 0 9 v0 rfl rfl) h0
  obtain ⟨ou, rfl, rfl, rfl, hou⟩ := open_string Tryz.underlying9 (hval 1 9 v1 rfl rfl) h1
  obtain ⟨d, yd, td, ld⟩ := open_byl (hval 2 22 v2 rfl rfl) h2
  obtain ⟨sm, hsl, hsb, rfl, rfl, rfl⟩ := open_bs Tryz.underlying24 Tryz.underlying5 cells5 cSum (hval 3 24 v3 rfl rfl) h3
  obtain ⟨L, yl, yb, ll⟩ := open_ls (hval 4 25 v4 rfl rfl) h4
  obtain ⟨sf, rfl, rfl, rfl⟩ := open_bool Tryz.underlying4 (hval 5 4 v5 rfl rfl) h5
  obtain ⟨ix, rfl, rfl, rfl, hix⟩ := open_int Tryz.underlying3 (hval 6 3 v6 rfl rfl) h6
  clear hA0 hval0
  simp only [List.append_nil] at hW' hup
  have hbl0 : Rows.uptoBulkAll [.lit (.string nm.data.toList), .lit (.string ou.data.toList), d2, .agg (dlits sm), d4, .lit (.bool sf), .lit (.int .i64 ix)] ≤ 1048576 := of_decide_eq_true hup
  have bd : d.length ≤ 1048576 := by
    rcases ld with ⟨_, rfl⟩ | ⟨es, sp, he, hlen⟩
    · simp
    · have k := part_le (l := [.lit (.string nm.data.toList), .lit (.string ou.data.toList), d2, .agg (dlits sm), d4, .lit (.bool sf), .lit (.int .i64 ix)]) (d := d2) (by simp)
      rw [he] at k
      have := length_le es
      simp only [Rows.uptoBulk] at k
      rw [he] at hbl0
      omega
  have bl : L.length ≤ 1048576 := by
    rcases ll with ⟨_, rfl⟩ | ⟨es, sp, he, hlen⟩
    · simp
    · have k := part_le (l := [.lit (.string nm.data.toList), .lit (.string ou.data.toList), d2, .agg (dlits sm), d4, .lit (.bool sf), .lit (.int .i64 ix)]) (d := d4) (by simp)
      rw [he] at k
      have := length_le es
      simp only [Rows.uptoBulk] at k
      rw [he] at hbl0
      omega
  have hlt : ∀ x ∈ p2 ++ p4, x.block < W.heap.size := fun x hx => by
    refine hW'.lt x ?_
    simp only [List.mem_append] at hx ⊢
    rcases hx with h | h
    · simp [h]
    · simp [h]
  let f : Fg := ⟨0, v4, L, false, ⟨#[]⟩, 0, List.replicate 32 0, ⟨#[]⟩, rfl, z32_byt, by omega, by omega, by omega, yb⟩
  refine (makes_any nm ou d bd td v2 sm hsl hsb f bl sf ix (wf_i64 hix) W hk hx ht hr yl yd).mono fun e W' ⟨he, hbl⟩ => ?_
  subst he
  have harg2 := Below.trod laidOut (by kernel_rfl) (of_decide_eq_true (by kernel_rfl)) h2 hbl (fun x hx => hlt x (List.mem_append.2 (.inl hx)))
  have harg4 := Below.trod laidOut (by kernel_rfl) (of_decide_eq_true (by kernel_rfl)) h4 hbl (fun x hx => hlt x (List.mem_append.2 (.inr hx)))
  exact ⟨_, rfl, _, _, _, [], _, [], hW', trodAll_mk1 (shut_bool Tryz.underlying4 _), trodAll_cons_mk (shut_string Tryz.underlying9 hnm) (trodAll_cons_mk (shut_string Tryz.underlying9 hou) (trodAll_cons_mk harg2 (trodAll_mk4 (shut_bs sm Tryz.underlying24 Tryz.underlying5 cells5 cSum hsl hsb) harg4 (shut_bool Tryz.underlying4 _) (shut_int Tryz.underlying3 hix)))), rfl, hbl.frame _, fun h => by cases h⟩
def wit : Array Value := #[.string ⟨#[]⟩, .string ⟨#[]⟩, .slice none 0 0, .agg (bs (List.replicate 32 0)), .slice none 0 0, .bool false, .int .i64 0]
theorem laid_met (os : Go.Os) : laidMet Tryz.prog Rows.labelMakesUptoRow.laid ((laidWorld os).forCall (fun _ _ => 0) ⟨#[], wit, []⟩).memory :=
  laidMet_of_run' 8 (by kernel_rfl) (by kernel_rfl)
theorem reads (os : Go.Os) {H : Type} (enc : TypeId × Value → H) : ∃ places, DataW.whole enc Tryz.prog ((laidWorld os).forCall (fun _ _ => 0) ⟨#[], wit, []⟩).memory Tryz.f3.params.toList Rows.labelMakesSpec.vars false wit.toList 8 = some ([.lit (.string []), .lit (.string []), .nil, .agg (dlits (List.replicate 32 0)), .nil, .lit (.bool false), .lit (.int .i64 0)], [], places) :=
  ⟨[], by kernel_rfl⟩
theorem lifted (os : Go.Os) (started : os.Started) (H : Type) (enc : TypeId × Value → H) (F : Stop.Interp) :
    ReturnsInHanded {} Tryz.checked os 3 .any ((Rows.OpenSpec.upto Rows.labelMakesSpec).preRow enc Tryz.prog Tryz.f3 Rows.labelMakesUptoRow.domain false Rows.labelMakesUptoRow.laid) (((Rows.OpenSpec.upto Rows.labelMakesSpec).at F).post enc Tryz.prog Tryz.f3 false true false false) := by
  obtain ⟨places, hx⟩ := reads os enc
  refine returnsInHanded_of_row (C := Tryz.checked) (s := Rows.OpenSpec.upto Rows.labelMakesSpec) own started (by kernel_rfl) Tryz.func3
    (witness_row_at (enc := enc) (C := Tryz.checked) false (laidWorld os) wit rfl (by kernel_rfl) (by kernel_rfl) (by kernel_rfl)
      (OpenSpec.preRow_of_cond 8 hx (by kernel_rfl) (fun k hk => by cases hk; kernel_rfl) (by kernel_rfl) (laid_met os))) ?_
  intro W base args ds gs before hval hW _ hcond hsz hL _ _
  exact contract H enc W base args ds gs before (tb_of_laid hL).1.1 (tb_of_laid hL).1.2.1 (tb_of_laid hL).1.2.2 (tb_of_laid hL).2 hval hW (hcond _ rfl)
theorem said : Rows.LabelMakesUptoSaid :=
  OpenClaim.holds_of_cond 3 Tryz.f3 rfl rfl rfl rfl rfl rfl rfl ⟨rfl, rfl, rfl, rfl, rfl⟩ rfl rfl rfl rfl rfl (by kernel_rfl) Tryz.func3 (by kernel_rfl)
    (of_decide_eq_true (by kernel_rfl)) (by unfold Func.isWrapper; first | (rw [if_pos (by decide +kernel)]; kernel_rfl) | (rw [if_neg (by decide +kernel)]; exact ⟨rfl, rfl⟩))
    (fun os started H enc _ F => by rw [OpenClaim.pre_eq_preRow]; exact lifted os started H enc F)
theorem plain (f : FuncId) (fn : Func) (hf : Tryz.pinned.checked.prog.funcNamed "graft/graftlaw2.LabelMakes" = some f) (hfn : Tryz.pinned.checked.prog.funcs[f]? = some fn) :
    false = Tryz.pinned.checked.prog.looks [] ∧ ∀ (j : Nat) t, fn.params[j]? = some t → Tryz.pinned.checked.prog.wantsStandIn t = false := by
  obtain rfl : f = 3 := Option.some.inj ((show Tryz.prog.funcNamed "graft/graftlaw2.LabelMakes" = some 3 by kernel_rfl).symm.trans hf) |>.symm
  obtain rfl : fn = Tryz.f3 := (Option.some.inj (Tryz.func3.symm.trans hfn)).symm
  refine ⟨by kernel_rfl, fun j t ht => ?_⟩
  rw [Tryz.params3] at ht
  match j, ht with
  | 0, h =>
    obtain rfl := (Option.some.inj h).symm
    exact (by kernel_rfl : Tryz.prog.wantsStandIn 9 = false)
  | 1, h =>
    obtain rfl := (Option.some.inj h).symm
    exact (by kernel_rfl : Tryz.prog.wantsStandIn 9 = false)
  | 2, h =>
    obtain rfl := (Option.some.inj h).symm
    exact (by kernel_rfl : Tryz.prog.wantsStandIn 22 = false)
  | 3, h =>
    obtain rfl := (Option.some.inj h).symm
    exact (by kernel_rfl : Tryz.prog.wantsStandIn 24 = false)
  | 4, h =>
    obtain rfl := (Option.some.inj h).symm
    exact (by kernel_rfl : Tryz.prog.wantsStandIn 25 = false)
  | 5, h =>
    obtain rfl := (Option.some.inj h).symm
    exact (by kernel_rfl : Tryz.prog.wantsStandIn 4 = false)
  | 6, h =>
    obtain rfl := (Option.some.inj h).symm
    exact (by kernel_rfl : Tryz.prog.wantsStandIn 3 = false)
  | j + 7, h => simp at h
end Go.Proofs.YteajpimonenopaaGreatDoor.DLm
namespace Go.Proofs.YteajpimonenopaaGreatDoor
theorem labelMakes_card : Rows.LabelMakesUptoCardSaid :=
  Claim7.holds_tied_plain_at .later [] _ _ _ _ DLm.said (fun _ h => by cases h) (by kernel_rfl) (fun _ h => by cases h) labelMakesUpto_row_tie rfl ⟨rfl, rfl⟩ (by kernel_rfl) rfl DLm.plain (by kernel_rfl)
#print axioms labelMakes_card
end Go.Proofs.YteajpimonenopaaGreatDoor
