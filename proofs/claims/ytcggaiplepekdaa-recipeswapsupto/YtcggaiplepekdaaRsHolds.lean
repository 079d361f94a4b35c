/- RecipeSwaps: the row, second form. -/
import Derived.Test.YtcggaiplepekdaaRsR
import Derived.Test.YtcggaiplepekdaaRcHolds
import Derived.Test.YtcggaiplepekdaaRows
import Derived.SizedLaws
import Derived.ChangeSlices
import Derived.SliceStrings
import Derived.OpenShut
import Derived.Carry
import Derived.JoinedCond
import Derived.Deep.Slices
import Derived.ProofKit
namespace Go.Proofs.Ytcggaiplepekdaa.Swps
open Go.ChangeShapes Go.WideShapes Go.ChangeAt Go.RowKit Go.Proofs.Ytcggaiplepekdaa.Puts
set_option maxRecDepth 100000 in
theorem open_recipe2 {H : Type} {enc : TypeId × Value → H} {W : World} {base : Nat} {v : Value} {D : DataW H} {p : List MemPlace} (hv : Value.okWide Try.prog W .any base 27 v) (h : DataW.Trod enc Try.prog W 0 (fun _ => true) true 27 v D p) (hD : Rows.uptoBulk D ≤ 1048576) :
    ∃ o n s a e R, v = .agg (rV o n s R.sys R.bld a e) ∧ Rc W o n s a e R ∧ Sm R ∧ (∀ p ∈ R.e, p.1.size ≤ 1048576 ∧ p.2.size ≤ 1048576) ∧ (∀ x ∈ R.a, x.size ≤ 1048576) ∧ (∀ x ∈ R.o, x.1.size ≤ 1048576 ∧ x.2.2.2.size ≤ 1048576) := by
  obtain ⟨fuel, h⟩ := h
  obtain ⟨cs, rfl, hcs, -⟩ : ∃ cs, v = .agg cs ∧ cs.size = Try.prog.cellsOf 27 ∧ Row.okWide Try.prog W .any base 27 cs := by
    unfold Value.okWide at hv
    rw [Try.underlying27] at hv
    exact hv
  rw [cellsR] at hcs
  obtain ⟨xs, n, rfl, hx, hlen, hxl, hfe⟩ := DataW.trod_struct Try.underlying27 h
  have hxl7 : xs.length = 7 := hxl
  have h0 := hfe 0 _ rfl
  have h1 := hfe 1 _ rfl
  have h2 := hfe 2 _ rfl
  have h3 := hfe 3 _ rfl
  have h4 := hfe 4 _ rfl
  have h5 := hfe 5 _ rfl
  have h6 := hfe 6 _ rfl
  rw [List.getElem?_eq_getElem (by omega)] at h0 h1 h2 h3 h4 h5 h6
  obtain ⟨l⟩ := cs
  match l, hcs with
  | [c0, c1, c2, c3, c4, c5, c6], _ =>
    have h0 : DataW.trod enc Try.prog W 0 (fun _ => true) true n 22 (([c0, c1, c2, c3, c4, c5, c6].drop 0).take (Try.prog.cellsOf 22)) = some xs[0] := h0
    have h1 : DataW.trod enc Try.prog W 0 (fun _ => true) true n 23 (([c0, c1, c2, c3, c4, c5, c6].drop 1).take (Try.prog.cellsOf 23)) = some xs[1] := h1
    have h2 : DataW.trod enc Try.prog W 0 (fun _ => true) true n 24 (([c0, c1, c2, c3, c4, c5, c6].drop 2).take (Try.prog.cellsOf 24)) = some xs[2] := h2
    have h3 : DataW.trod enc Try.prog W 0 (fun _ => true) true n 9 (([c0, c1, c2, c3, c4, c5, c6].drop 3).take (Try.prog.cellsOf 9)) = some xs[3] := h3
    have h4 : DataW.trod enc Try.prog W 0 (fun _ => true) true n 9 (([c0, c1, c2, c3, c4, c5, c6].drop 4).take (Try.prog.cellsOf 9)) = some xs[4] := h4
    have h5 : DataW.trod enc Try.prog W 0 (fun _ => true) true n 24 (([c0, c1, c2, c3, c4, c5, c6].drop 5).take (Try.prog.cellsOf 24)) = some xs[5] := h5
    have h6 : DataW.trod enc Try.prog W 0 (fun _ => true) true n 25 (([c0, c1, c2, c3, c4, c5, c6].drop 6).take (Try.prog.cellsOf 25)) = some xs[6] := h6
    rw [cellsOs] at h0
    rw [cellsIs] at h1
    rw [cellsT] at h2 h5
    rw [cells9] at h3 h4
    rw [cellsPs] at h6
    obtain ⟨lo, a0, b0, z0⟩ := open_outs h0
    obtain ⟨ln, a1, b1, z1⟩ := open_inps h1
    obtain ⟨ls, a2, b2, z2⟩ := open_texts h2
    obtain ⟨s3, e3, -⟩ := open_str h3
    obtain ⟨s4, e4, -⟩ := open_str h4
    obtain ⟨la, a5, b5, z5⟩ := open_texts h5
    obtain ⟨le, a6, b6, z6⟩ := open_pairs h6
    have w3 : c3 = _ := (List.cons.inj e3).1
    have w4 : c4 = _ := (List.cons.inj e4).1
    have e2 : D = .agg (xs.map (·.1)) := congrArg Prod.fst hx
    rw [e2] at hD
    have k0 := bulk_part (xs := xs) (i := 0) (y := xs[0]) (List.getElem?_eq_getElem (by omega))
    have k1 := bulk_part (xs := xs) (i := 1) (y := xs[1]) (List.getElem?_eq_getElem (by omega))
    have k2 := bulk_part (xs := xs) (i := 2) (y := xs[2]) (List.getElem?_eq_getElem (by omega))
    have k5 := bulk_part (xs := xs) (i := 5) (y := xs[5]) (List.getElem?_eq_getElem (by omega))
    have k6 := bulk_part (xs := xs) (i := 6) (y := xs[6]) (List.getElem?_eq_getElem (by omega))
    refine ⟨c0, c1, c2, c5, c6, ⟨lo, ln, ls, s3, s4, la, le⟩, by rw [w3, w4]; rfl, ⟨a0, a1, a2, a5, a6⟩, ?_, fun q hq => ?_, fun q hq => ?_, fun q hq => ?_⟩
    · unfold Sm
      refine ⟨by show lo.length ≤ _; omega, by show ln.length ≤ _; omega, by show ls.length ≤ _; omega, by show la.length ≤ _; omega, by show le.length ≤ _; omega, fun q hq => ?_⟩
      have := z1 q hq
      omega
    · have := z6 q hq
      omega
    · have := z5 q hq
      omega
    · have := z0 q hq
      omega
set_option maxRecDepth 100000 in
theorem contract (H : Type) (enc : TypeId × Value → H) (W : World) (base : Nat) (args : Array Value) (ds gs : List (DataW H)) (before : List MemPlace)
    (hval0 : ∀ (j : Nat) t v, (Try.f4).params[j]? = some t → args[j]? = some v → Value.okWide Try.prog W .any base t v)
    (hW : DataW.Whole enc Try.prog (Try.f4).params.toList Rows.recipeSwapsSpec.vars false W args.toList ds gs before)
    (hk : Rows.uptoSmall H (ds ++ gs) = true) :
    Calls Try.prog 4 args W fun e W' => ∃ v, e = .returned v ∧ Rows.recipeSwapsSpec.post enc Try.prog Try.f4 false true false false W args v W' := by
  have hval := hval0
  have hW' := hW
  obtain ⟨p, q, hA0, hV, rfl, hfz, hnd⟩ := hW
  have hA : DataW.TrodAll enc Try.prog W 0 (fun _ => true) true (Try.f4).params.toList args.toList ds p := hA0
  rw [Try.params4] at hA hval
  obtain ⟨v0, v1, v2, d0, d1, d2, p0, p1, p2, rfl, rfl, rfl, h0, h1, h2⟩ := trodAll_three hA
  obtain ⟨rfl, rfl⟩ := trodVars_none hV
  clear hA0 hval0
  simp only [List.append_nil] at hW' hk
  have hbk : Rows.uptoBulkAll [d0, d1, d2] ≤ 1048576 := of_decide_eq_true hk
  have k0 := part_le (l := [d0, d1, d2]) (d := d0) (by simp)
  have k1 := part_le (l := [d0, d1, d2]) (d := d1) (by simp)
  have k2 := part_le (l := [d0, d1, d2]) (d := d2) (by simp)
  obtain ⟨o, n, s, a, e, R, rfl, hrc, hs, z1, z2, z3⟩ := open_recipe2 (hval 0 27 v0 rfl rfl) h0 (by omega)
  obtain ⟨a0, len, cap, rfl⟩ := okWide_slice Try.underlying24 (hval 1 24 v1 rfl rfl)
  obtain ⟨a1, len1, cap1, rfl⟩ := okWide_slice Try.underlying24 (hval 2 24 v2 rfl rfl)
  obtain ⟨fuel, hf⟩ := id h1
  obtain ⟨fr, hl, hlb, hlz⟩ := open_texts hf
  obtain ⟨fuel2, hf2⟩ := id h2
  obtain ⟨to, hl2, hlb2, hlz2⟩ := open_texts hf2
  have hlb : fr.length ≤ Rows.uptoBulk d1 := hlb
  have hlb2 : to.length ≤ Rows.uptoBulk d2 := hlb2
  have hlz : ∀ x ∈ fr, x.size ≤ Rows.uptoBulk d1 := hlz
  have hlz2 : ∀ x ∈ to, x.size ≤ Rows.uptoBulk d2 := hlz2
  have hlt0 : ∀ x ∈ p0, x.block < W.heap.size := fun x hx => by simpa using hW'.lt x (by simp [hx])
  have hlt1 : ∀ x ∈ p1, x.block < W.heap.size := fun x hx => by simpa using hW'.lt x (by simp [hx])
  have hlt2 : ∀ x ∈ p2, x.block < W.heap.size := fun x hx => by simpa using hW'.lt x (by simp [hx])
  have hT : TUR.size ≤ 100 := by decide
  have hbd : Bd R fr to := ⟨fun x hx => by have := z2 x hx; omega, fun p hp => by have := (z1 p hp).2; omega, fun x hx => by have := hlz x hx; omega, fun x hx => by have := hlz2 x hx; omega, by omega, by omega⟩
  have hbt : Bd (turnR R) fr to := ⟨fun x hx => by have := turn_a (M := 1048576) z2 x hx; omega, fun p hp => by have := turn_v (M := 1048576) (fun p hp => (z1 p hp).2) p hp; omega, hbd.2.2⟩
  refine (swaps_any W o n s a e R hs (fun p hp => ⟨by have := (z1 p hp).1; omega, by have := (z1 p hp).2; omega⟩) (fun x hx => by have := z2 x hx; omega) (fun x hx => ⟨by have := (z3 x hx).1; omega, by have := (z3 x hx).2; omega⟩) hrc _ _ fr to hl hl2 hbd hbt).mono fun e W' ⟨he, hbl⟩ => ?_
  subst he
  have harg0 := Below.trod laidOut (by kernel_rfl) (of_decide_eq_true (by kernel_rfl)) h0 hbl hlt0
  have harg1 := Below.trod laidOut (by kernel_rfl) (of_decide_eq_true (by kernel_rfl)) h1 hbl hlt1
  have harg2 := Below.trod laidOut (by kernel_rfl) (of_decide_eq_true (by kernel_rfl)) h2 hbl hlt2
  exact ⟨_, rfl, _, _, _, [], _, [], hW', trodAll_mk1 (shut_bool Try.underlying4 _), trodAll_mk3 harg0 harg1 harg2, rfl, hbl.frame _, fun h => by cases h⟩
set_option maxRecDepth 100000 in
theorem lifted (os : Os) (started : os.Started) (H : Type) (enc : TypeId × Value → H) (F : Stop.Interp) :
    ReturnsInHanded {} Try.checked os 4 .any ((Rows.OpenSpec.upto Rows.recipeSwapsSpec).pre6 enc Try.prog Try.f4 Rows.recipeSwapsUptoRow.domain false) (((Rows.OpenSpec.upto Rows.recipeSwapsSpec).at F).post enc Try.prog Try.f4 false true false false) := by
  refine returnsInHanded_of_cond (C := Try.checked) (s := Rows.OpenSpec.upto Rows.recipeSwapsSpec) (k := Rows.uptoSmall) rfl own started (by kernel_rfl) Try.func4
    (OpenSpec.witness (enc := enc) (C := Try.checked) (s := Rows.OpenSpec.upto Rows.recipeSwapsSpec) (k := Rows.uptoSmall) rfl false ⟨#[], #[.agg #[.slice none 0 0, .slice none 0 0, .slice none 0 0, .string ⟨#[]⟩, .string ⟨#[]⟩, .slice none 0 0, .slice none 0 0], .slice none 0 0, .slice none 0 0], []⟩ 8 (by kernel_rfl) (by kernel_rfl) (by kernel_rfl)
      (x := ([.agg [.nil, .nil, .nil, .lit (.string []), .lit (.string []), .nil, .nil], .nil, .nil], [], [])) (by kernel_rfl) rfl (by kernel_rfl)) ?_
  intro W base args ds gs before hval hW _ hk _
  exact contract H enc W base args ds gs before hval hW hk
theorem said : Rows.RecipeSwapsUptoSaid :=
  OpenClaim.holds_of_cond 4 Try.f4 rfl rfl rfl rfl rfl rfl rfl ⟨rfl, rfl, rfl, rfl, rfl⟩ rfl rfl rfl rfl rfl (by kernel_rfl) Try.func4 (by kernel_rfl)
    (of_decide_eq_true (by kernel_rfl)) (by unfold Func.isWrapper; first | (rw [if_pos (by decide +kernel)]; kernel_rfl) | (rw [if_neg (by decide +kernel)]; exact ⟨rfl, rfl⟩))
    (fun os started H enc _ F => lifted os started H enc F)
end Go.Proofs.Ytcggaiplepekdaa.Swps
namespace Go.Proofs.Ytcggaiplepekdaa
theorem recipeSwapsUpto_holds : Rows.RecipeSwapsUptoSaid := Swps.said
#print axioms recipeSwapsUpto_holds
end Go.Proofs.Ytcggaiplepekdaa
