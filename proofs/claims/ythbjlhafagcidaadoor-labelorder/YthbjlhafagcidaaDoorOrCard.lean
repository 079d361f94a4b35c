/- LabelOrder: the row and the card. -/
import Derived.Test.YthbjlhafagcidaaDoorOrX
import Derived.Test.YthbjlhafagcidaaDoorLabArg
import Derived.SliceStrings
import Derived.OpenShut
import Derived.Carry
import Derived.JoinedCond
import Derived.Deep.Slices
namespace Go.Proofs.YthbjlhafagcidaaDoor.DOr
open Go.ChangeShapes Go.WideShapes Go.ChangeAt Go.RowKit
theorem open_one {H : Type} {enc' : TypeId × Value → H} {W : World} {base fuel : Nat} {sp : Nat → Bool} {held : Bool} {cs : List Value} {x : DataW H × List MemPlace} (h : DataW.trod enc' Tryd.prog W base sp held fuel 25 cs = some x) : ∃ l : Lb, cs = enc l := by
  obtain ⟨y0, y1, n, hx, hl, h0, h1⟩ := trod_struct2 Tryd.underlying25 h
  simp only at h0 h1
  rw [cells23] at h0
  rw [cells9] at h1
  rw [cells25] at hl
  obtain ⟨l, l1, l2, l3, -⟩ := open_row Tryd.underlying23 Tryd.underlying5 cells5 (by rw [List.length_take, List.length_drop]; omega) h0
  obtain ⟨s, s1, -, -⟩ := DataW.trod_string Tryd.underlying9 h1
  refine ⟨⟨l, s, l1⟩, ?_⟩
  rw [← List.take_append_drop 20 cs]
  have e1 : cs.take 20 = (bs l).toList := by simpa using l3
  have e2 : cs.drop 20 = [.string s] := by
    have : (cs.drop 20).take 1 = [.string s] := by simpa using s1
    rw [List.take_of_length_le (by rw [List.length_drop]; omega)] at this
    exact this
  rw [e1, e2]
  simp [enc, lab]
set_option maxRecDepth 100000 in
theorem open_ls {H : Type} {enc' : TypeId × Value → H} {W : World} {base : Nat} {v : Value} {D : DataW H} {p : List MemPlace} (hv : Value.okWide Tryd.prog W .any base 26 v) (h : DataW.Trod enc' Tryd.prog W 0 (fun _ => true) true 26 v D p) :
    ∃ L : List Lb, Ls v L W ∧ ((D = .nil ∧ L = []) ∨ ∃ es sp, D = .slice es sp ∧ es.length = L.length) := by
  obtain ⟨a0, len, cap, rfl⟩ := okWide_slice Tryd.underlying26 hv
  obtain ⟨fuel, hf⟩ := h
  rcases DataW.trod_slice Tryd.underlying26 hf with ⟨hcs, hx⟩ | ⟨a, len', cap', elems, rest, n, -, hcs, hx, -, hlc, hcm, hel, hat, -, -⟩
  · simp [Value.cells] at hcs
    obtain ⟨rfl, rfl, rfl⟩ := hcs
    exact ⟨[], .inl ⟨rfl, none, 0, rfl, Nat.zero_le _, fun _ => rfl⟩, .inl ⟨by simp only [Prod.mk.injEq] at hx; exact hx.1, rfl⟩⟩
  · simp [Value.cells] at hcs
    obtain ⟨rfl, rfl, rfl⟩ := hcs
    simp only [Value.okWide, Tryd.underlying26, Cell.okWide, Cell.ok] at hv
    obtain ⟨_, _, _, hspot, row, cells', hsh, _⟩ := hv
    have hblk : a.block < W.heap.size := by
      rcases Nat.lt_or_ge a.block W.heap.size with h | h
      · exact h
      · simp [World.shape?, Array.getElem?_eq_none h] at hsh
    obtain ⟨b, off, spot⟩ := a
    simp only at hspot hblk
    subst hspot
    have each : ∀ i, i < len → ∃ x : Lb, W.rangeAt b (off + i * 21) (enc x) := by
      intro i hi
      have h1 := hat i hi
      rw [List.getElem?_eq_getElem (by omega), cells25] at h1
      obtain ⟨cs, hc, ht⟩ := Option.bind_eq_some_iff.1 h1
      obtain ⟨x, rfl⟩ := open_one ht
      refine ⟨x, fun j u hu => ?_⟩
      have hj : j < 21 := by have := (List.getElem?_eq_some_iff.1 hu).1; rwa [enc_len] at this
      have h2 := World.cells?_some hc
      have h3 := h2.2.2 j hj
      rw [Addr.add_mid, Addr.add_mid] at h3
      rw [h3]
      exact hu
    have pick : ∃ f : Nat → Lb, ∀ i, i < len → W.rangeAt b (off + i * 21) (enc (f i)) := by
      refine ⟨fun i => if h : i < len then (each i h).choose else default, fun i hi => ?_⟩
      simp only [dif_pos hi]
      exact (each i hi).choose_spec
    obtain ⟨f, hf'⟩ := pick
    have hll : ((List.range len).map f).length = len := by simp
    refine ⟨(List.range len).map f, .inr ⟨b, off, cap, by rw [hll], by omega, hcm, hblk, fun i x hx => ?_⟩, ?_⟩
    · have hi : i < len := by have := (List.getElem?_eq_some_iff.1 hx).1; rwa [hll] at this
      have : x = f i := by simp [hi] at hx; exact hx.symm
      rw [this]
      exact hf' i hi
    · simp only [Prod.mk.injEq] at hx
      exact .inr ⟨_, _, hx.1, by rw [List.length_map, hel, hll]⟩
theorem bytes25 : Tryd.prog.bytesOf 25 = 40 := by kernel_rfl
theorem len_le {H : Type} {ts : List TypeId} {ds : List (DataW H)} (h : (DataW.weightsEach Tryd.prog ts ds).all (· ≤ reachBytes) = true) {j : Nat} {d : DataW H} {l : List Lb} (ht : ts[j]? = some 26) (hd : ds[j]? = some d) (hl : (d = .nil ∧ l = []) ∨ ∃ es sp, d = .slice es sp ∧ es.length = l.length) : l.length ≤ 4398046511104 := by
  rcases hl with ⟨_, rfl⟩ | ⟨es, sp, rfl, hlen⟩
  · simp
  · have h1 := sized_slice h ht hd Tryd.underlying26
    have h2 : reachBytes = 140737488351232 := by decide
    rw [bytes25] at h1
    omega
set_option maxRecDepth 100000 in
theorem contract (H : Type) (enc : TypeId × Value → H) (W : World) (base : Nat) (args : Array Value) (ds gs : List (DataW H)) (before : List MemPlace) (ht : Tx W)
    (hval0 : ∀ (j : Nat) t v, Tryd.f3.params[j]? = some t → args[j]? = some v → Value.okWide Tryd.prog W .any base t v)
    (hW : DataW.Whole enc Tryd.prog Tryd.f3.params.toList Rows.labelOrderSpec.vars false W args.toList ds gs before)
    (hsz0 : (DataW.weightsEach Tryd.prog (Tryd.f3.params.toList ++ Rows.labelOrderSpec.plain.varTypes Tryd.prog) (ds ++ gs)).all (· ≤ reachBytes) = true) :
    Calls Tryd.prog 3 args W fun e W' => ∃ v, e = .returned v ∧ Rows.labelOrderSpec.post enc Tryd.prog Tryd.f3 false true false false W args v W' := by
  have hval := hval0
  have hsz := hsz0
  have hW' := hW
  obtain ⟨p, q, hA0, hV, rfl, hfz, hnd⟩ := hW
  have hA : DataW.TrodAll enc Tryd.prog W 0 (fun _ => true) true Tryd.f3.params.toList args.toList ds p := hA0
  rw [Tryd.params3] at hA hval hsz
  obtain ⟨v0, v1, v2, v3, d0, d1, d2, d3, p0, p1, p2, p3, rfl, rfl, rfl, h0, h1, h2, h3⟩ := trodAll_four hA
  obtain ⟨rfl, rfl⟩ := trodVars_none hV
  obtain ⟨a, sa, la, ba, na, rfl, rfl, rfl⟩ := open_lab (hval 0 25 v0 rfl rfl) h0
  obtain ⟨b, sb, lb, bb, nb, rfl, rfl, rfl⟩ := open_lab (hval 1 25 v1 rfl rfl) h1
  obtain ⟨c, sc, lc, bc, nc, rfl, rfl, rfl⟩ := open_lab (hval 2 25 v2 rfl rfl) h2
  obtain ⟨L, y3, l3⟩ := open_ls (hval 3 26 v3 rfl rfl) h3
  clear hA0 hval0
  simp only [List.append_nil] at hW'
  have hl3 := len_le hsz (j := 3) rfl rfl l3
  have hlt : ∀ x ∈ p3, x.block < W.heap.size := fun x hx => by simpa using hW'.lt x (by simp [hx])
  refine (order_any ⟨a, sa, la⟩ ⟨b, sb, lb⟩ ⟨c, sc, lc⟩ ba bb L hl3 v3 W y3 ht).mono fun e W' ⟨he, hbl⟩ => ?_
  subst he
  have harg3 := Below.trod laidOut (by kernel_rfl) (of_decide_eq_true (by kernel_rfl)) h3 hbl hlt
  exact ⟨_, rfl, _, _, _, [], _, [], hW', trodAll_mk1 (shut_bool Tryd.underlying4 _), trodAll_mk4 (shut_lab a sa la ba na) (shut_lab b sb lb bb nb) (shut_lab c sc lc bc nc) harg3, rfl, hbl.frame _, fun h => by cases h⟩
def wit : Array Value := #[.agg (lab z20 ⟨#[]⟩), .agg (lab z20 ⟨#[]⟩), .agg (lab z20 ⟨#[]⟩), .slice none 0 0]
theorem laid_met (os : Os) : laidMet Tryd.prog Rows.labelOrderRow.laid ((laidWorld os).forCall (fun _ _ => 0) ⟨#[], wit, []⟩).memory :=
  laidMet_of_run' 8 (by kernel_rfl) (by kernel_rfl)
theorem reads (os : Os) {H : Type} (enc : TypeId × Value → H) : ∃ places, DataW.whole enc Tryd.prog ((laidWorld os).forCall (fun _ _ => 0) ⟨#[], wit, []⟩).memory Tryd.f3.params.toList Rows.labelOrderSpec.vars false wit.toList 8 = some ([dlab z20 ⟨#[]⟩, dlab z20 ⟨#[]⟩, dlab z20 ⟨#[]⟩, .nil], [], places) :=
  ⟨[], by kernel_rfl⟩
set_option maxRecDepth 100000 in
theorem lifted (os : Os) (started : os.Started) (H : Type) (enc : TypeId × Value → H) (F : Stop.Interp) :
    ReturnsInHanded {} Tryd.checked os 3 .any ((OpenSpec.ofChange Rows.labelOrderSpec).preRow enc Tryd.prog Tryd.f3 Rows.labelOrderRow.domain false Rows.labelOrderRow.laid) (((OpenSpec.ofChange Rows.labelOrderSpec).at F).post enc Tryd.prog Tryd.f3 false true false false) := by
  obtain ⟨places, hx⟩ := reads os enc
  refine returnsInHanded_of_row (C := Tryd.checked) (s := OpenSpec.ofChange Rows.labelOrderSpec) own started (by kernel_rfl) Tryd.func3
    (witness_row_at (enc := enc) (C := Tryd.checked) false (laidWorld os) wit rfl (by kernel_rfl) (by kernel_rfl) (by kernel_rfl)
      (OpenSpec.preRow_of_cond 8 hx (by kernel_rfl) (fun k hk => by cases hk) (by kernel_rfl) (laid_met os))) ?_
  intro W base args ds gs before hval hW _ _ hsz hL _ _
  exact contract H enc W base args ds gs before (tx_of_laid hL) hval hW hsz
theorem said : Rows.LabelOrderSaid :=
  OpenClaim.holds_of_cond 3 Tryd.f3 rfl rfl rfl rfl rfl rfl rfl ⟨rfl, rfl, rfl, rfl, rfl⟩ rfl rfl rfl rfl rfl (by kernel_rfl) Tryd.func3 (by kernel_rfl)
    (of_decide_eq_true (by kernel_rfl)) (by unfold Func.isWrapper; first | (rw [if_pos (by decide +kernel)]; kernel_rfl) | (rw [if_neg (by decide +kernel)]; exact ⟨rfl, rfl⟩))
    (fun os started H enc _ F => by rw [OpenClaim.pre_eq_preRow]; exact lifted os started H enc F)
theorem plain (f : FuncId) (fn : Func) (hf : Tryd.pinned.checked.prog.funcNamed "graft/graftlaw2.LabelOrder" = some f) (hfn : Tryd.pinned.checked.prog.funcs[f]? = some fn) :
    false = Tryd.pinned.checked.prog.looks [] ∧ ∀ (j : Nat) t, fn.params[j]? = some t → Tryd.pinned.checked.prog.wantsStandIn t = false := by
  obtain rfl : f = 3 := Option.some.inj ((show Tryd.prog.funcNamed "graft/graftlaw2.LabelOrder" = some 3 by kernel_rfl).symm.trans hf) |>.symm
  obtain rfl : fn = Tryd.f3 := (Option.some.inj (Tryd.func3.symm.trans hfn)).symm
  refine ⟨by kernel_rfl, fun j t ht => ?_⟩
  rw [Tryd.params3] at ht
  match j, ht with
  | 0, h =>
    obtain rfl := (Option.some.inj h).symm
    exact (by kernel_rfl : Tryd.prog.wantsStandIn 25 = false)
  | 1, h =>
    obtain rfl := (Option.some.inj h).symm
    exact (by kernel_rfl : Tryd.prog.wantsStandIn 25 = false)
  | 2, h =>
    obtain rfl := (Option.some.inj h).symm
    exact (by kernel_rfl : Tryd.prog.wantsStandIn 25 = false)
  | 3, h =>
    obtain rfl := (Option.some.inj h).symm
    exact (by kernel_rfl : Tryd.prog.wantsStandIn 26 = false)
  | j + 4, h => simp at h
end Go.Proofs.YthbjlhafagcidaaDoor.DOr
namespace Go.Proofs.YthbjlhafagcidaaDoor
theorem labelOrder_card : Rows.LabelOrderCardSaid :=
  Claim7.holds_tied_plain_at .later [] _ _ _ _ DOr.said (fun _ h => by cases h) (by kernel_rfl) (fun _ h => by cases h) labelOrder_row_tie rfl ⟨rfl, rfl⟩ (by kernel_rfl) rfl DOr.plain (by kernel_rfl)
#print axioms labelOrder_card
end Go.Proofs.YthbjlhafagcidaaDoor
