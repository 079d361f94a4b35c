/- DigestPieces: the row and the card. -/
import Derived.Test.YtkppejaigodgiaaDoorPiecesAll
import Derived.Deep.Slices
import Derived.OpenShut
namespace Go.Proofs.YtkppejaigodgiaaDoor.DPieces
open Go.ChangeShapes Go.WideShapes Go.ChangeAt Go.RowKit

theorem one_le {H : Type} (d : DataW H) : 1 ≤ Rows.uptoBulk d := by
  cases d with
  | lit l => cases l <;> simp [Rows.uptoBulk]
  | _ => simp [Rows.uptoBulk]
theorem length_le {H : Type} : ∀ l : List (DataW H), l.length ≤ Rows.uptoBulkAll l
  | [] => by simp [Rows.uptoBulkAll]
  | x :: r => by have h1 := one_le x; have h2 := length_le r; simp only [Rows.uptoBulkAll, List.length_cons]; omega
theorem part_le {H : Type} {d : DataW H} : ∀ {l : List (DataW H)}, d ∈ l → Rows.uptoBulk d ≤ Rows.uptoBulkAll l
  | x :: r, h => by
    simp only [Rows.uptoBulkAll]
    rcases List.mem_cons.1 h with e | e
    · subst e; omega
    · have := part_le e; omega
theorem cells26 : Tryd.prog.cellsOf 26 = 1 := by kernel_rfl
theorem flat_le {H α : Type} (f : α → List Nat) (g : α → DataW H) : ∀ l : List α, (∀ x ∈ l, (f x).length ≤ Rows.uptoBulk (g x)) → ((l.map f).flatten).length ≤ Rows.uptoBulkAll (l.map g)
  | [], _ => by simp
  | x :: r, h => by
    have h1 := flat_le f g r (fun y hy => h y (List.mem_cons_of_mem _ hy))
    have h2 := h x (by simp)
    simp only [List.map_cons, List.flatten_cons, List.length_append, Rows.uptoBulkAll]
    omega
theorem open_byz {H : Type} {enc : TypeId × Value → H} {W : World} {n : Nat} {v : Value} {D : DataW H} {Pl : List MemPlace} (h : DataW.trod enc Tryd.prog W 0 (fun _ => true) true n 26 [v] = some (D, Pl)) :
    ∃ d : List Nat, Byz v d W ∧ Byt d ∧ d.length ≤ Rows.uptoBulk D := by
  rcases open_ints Tryd.underlying26 Tryd.underlying5 cells5 h with ⟨hcs, hx⟩ | ⟨a, len, cap, zs, hcs, _, hl, hm, hz, hx, hcell, hwz⟩
  · obtain rfl : v = .slice none 0 0 := by simpa using hcs
    exact ⟨[], .inl (.inl ⟨rfl, rfl⟩), (fun x hx => by cases hx), by simp⟩
  · obtain rfl : v = .slice (some a) len cap := by simpa using hcs
    simp only [if_true] at hz
    simp only [Prod.mk.injEq] at hx
    by_cases h0 : zs.length = 0
    · obtain rfl : cap = 0 := by omega
      obtain rfl : len = 0 := by omega
      exact ⟨[], .inr ⟨some a, rfl, rfl⟩, (fun x hx => by cases hx), by simp⟩
    · obtain ⟨b, off, rfl, hc⟩ := ints_at hcell (by omega)
      have hw : ∀ z ∈ zs, 0 ≤ z ∧ z < 256 := fun z hz => wf_byte (hwz z hz)
      have hll : ((zs.take len).map Int.toNat).length = len := by rw [List.length_map, List.length_take]; omega
      have hblk : b < W.heap.size := World.block_lt_of_cell? W ⟨b, off + 0, none⟩ (hc 0 (by omega))
      refine ⟨(zs.take len).map Int.toNat, .inl (.inr ⟨b, off, cap, by rw [hll], by omega, hm, hblk, fun j hj => ?_⟩), ?_, ?_⟩
      · rw [hll] at hj
        have hj2 : j < zs.length := by omega
        rw [hc j hj2]
        have h2 : zs.getD j 0 = zs[j] := by simp [List.getD, hj2]
        have h3 : ((zs.take len).map Int.toNat).getD j 0 = zs[j].toNat := by simp [List.getD, hj, hj2]
        rw [h2, h3, Int.toNat_of_nonneg (hw _ (List.getElem_mem hj2)).1]
      · intro x hx
        obtain ⟨z, hz, rfl⟩ := List.mem_map.1 hx
        have := hw z (List.mem_of_mem_take hz)
        omega
      · rw [hll, hx.1]
        have h4 := length_le (lits (H := H) .u8 (zs.take len))
        have h5 : (lits (H := H) .u8 (zs.take len)).length = len := by simp [lits]; omega
        simp only [Rows.uptoBulk]
        omega
theorem open_pcz {H : Type} {enc : TypeId × Value → H} {W : World} {base : Nat} {v : Value} {d : DataW H} {p : List MemPlace} (hv : Value.okWide Tryd.prog W .any base 38 v) (h : DataW.Trod enc Tryd.prog W 0 (fun _ => true) true 38 v d p) :
    ∃ ds : List (List Nat), Pcz v ds W ∧ (∀ l ∈ ds, Byt l) ∧ ds.flatten.length ≤ Rows.uptoBulk d ∧ ds.length ≤ Rows.uptoBulk d := by
  obtain ⟨a0, len, cap, rfl⟩ := okWide_slice Tryd.underlying38 hv
  obtain ⟨fuel, hf⟩ := h
  rcases Go.Deep.open_slice1 Tryd.underlying38 cells26 hf with ⟨hcs, hx⟩ | ⟨a, len', cap', m, n, V, D, Pl, hcs, _, hl, hm, hmm, hx, hi⟩
  · simp [Value.cells] at hcs
    obtain ⟨rfl, rfl, rfl⟩ := hcs
    exact ⟨[], .inl ⟨rfl, rfl⟩, (fun x hx => by cases hx), by simp, by simp⟩
  · simp [Value.cells] at hcs
    obtain ⟨rfl, rfl, rfl⟩ := hcs
    simp only [Value.okWide, Tryd.underlying38, Cell.okWide, Cell.ok] at hv
    obtain ⟨_, _, _, hspot, row, cells, hsh, _⟩ := hv
    have hblk : a.block < W.heap.size := by
      rcases Nat.lt_or_ge a.block W.heap.size with h | h
      · exact h
      · simp [World.shape?, Array.getElem?_eq_none h] at hsh
    obtain ⟨b, off, spot⟩ := a
    simp only at hspot hblk
    subst hspot
    simp only [if_true] at hmm
    subst hmm
    have hch : ∀ i, ∃ d : List Nat, i < m → Byz (V i) d W ∧ Byt d ∧ d.length ≤ Rows.uptoBulk (D i) := fun i => by
      by_cases him : i < m
      · obtain ⟨d, h1⟩ := open_byz (hi i him).2
        exact ⟨d, fun _ => h1⟩
      · exact ⟨[], fun h => absurd h him⟩
    obtain ⟨f, hf2⟩ := Classical.axiomOfChoice hch
    have hln : ((List.range len).map f).length = len := by simp
    simp only [Prod.mk.injEq] at hx
    refine ⟨(List.range len).map f, .inr ⟨b, off, m, (List.range len).map V, by rw [hln], by omega, hm, hblk, by simp, fun j hj => ?_, fun j h1 h2 => ?_⟩, ?_, ?_, ?_⟩
    · have hj2 : j < len := by simpa using hj
      have h1 := (hi j (by omega)).1
      rw [Go.WideShapes.add_plain] at h1
      rw [h1]
      simp
    · have hj2 : j < len := by simpa using h1
      have := (hf2 j (by omega)).1
      simpa using this
    · intro l hl2
      obtain ⟨i, hi2, rfl⟩ := List.mem_map.1 hl2
      exact (hf2 i (by have := List.mem_range.1 hi2; omega)).2.1
    · have h1 := flat_le f D (List.range len) (fun i hi2 => (hf2 i (by have := List.mem_range.1 hi2; omega)).2.2)
      rw [hx.1]
      simp only [Rows.uptoBulk]
      omega
    · have h1 := length_le ((List.range len).map D)
      rw [hx.1, hln]
      simp only [Rows.uptoBulk]
      simp at h1
      omega
theorem contract (H : Type) (enc : TypeId × Value → H) (W : World) (base : Nat) (args : Array Value) (ds gs : List (DataW H)) (before : List MemPlace) (ht : Tb W)
    (hval0 : ∀ (j : Nat) t v, Tryd.f7.params[j]? = some t → args[j]? = some v → Value.okWide Tryd.prog W .any base t v)
    (hW : DataW.Whole enc Tryd.prog Tryd.f7.params.toList Rows.digestPiecesSpec.vars false W args.toList ds gs before)
    (hk : Rows.uptoSmall H (ds ++ gs) = true) :
    Calls Tryd.prog 7 args W fun e W' => ∃ v, e = .returned v ∧ Rows.digestPiecesSpec.post enc Tryd.prog Tryd.f7 false true false false W args v W' := by
  have hval := hval0
  have hW' := hW
  obtain ⟨p, q, hA0, hV, rfl, hfz, hnd⟩ := hW
  have hA : DataW.TrodAll enc Tryd.prog W 0 (fun _ => true) true Tryd.f7.params.toList args.toList ds p := hA0
  rw [Tryd.params7] at hA hval
  obtain ⟨v0, v1, d0, d1, p0, p1, rfl, rfl, rfl, h0, h1⟩ := trodAll_two hA
  obtain ⟨rfl, rfl⟩ := trodVars_none hV
  obtain ⟨ds, y0, t0, l0, l1⟩ := open_pcz (hval 0 38 v0 rfl rfl) h0
  obtain ⟨x, rfl, rfl, rfl, wx⟩ := open_int Tryd.underlying3 (hval 1 3 v1 rfl rfl) h1
  clear hA0 hval0
  simp only [List.append_nil] at hW' hk
  have hb := part_le (l := [d0, DataW.lit (.int .i64 x)]) (d := d0) (by simp)
  have hbk : Rows.uptoBulkAll [d0, DataW.lit (.int .i64 x)] ≤ 1048576 := of_decide_eq_true hk
  have hlt : ∀ x ∈ p0, x.block < W.heap.size := fun x hx => by simpa using hW'.lt x (by simpa using hx)
  refine (pieces_any ds x t0 (by omega) (by omega) v0 W ht y0).mono fun e W' ⟨he, hbl⟩ => ?_
  subst he
  have harg0 := Below.trod laidOut (by kernel_rfl) (of_decide_eq_true (by kernel_rfl)) h0 hbl hlt
  exact ⟨_, rfl, _, _, _, [], _, [], hW', trodAll_mk1 (shut_bool Tryd.underlying4 _), trodAll_mk2 harg0 (shut_int Tryd.underlying3 wx), rfl, hbl.frame _, fun h => by cases h⟩

theorem laid_met (os : Os) : laidMet Tryd.prog Rows.digestPiecesUptoRow.laid ((laidWorld os).forCall (fun _ _ => 0) ⟨#[], #[.slice none 0 0, .int .i64 0], []⟩).memory :=
  laidMet_of_run' 8 (by kernel_rfl) (by kernel_rfl)
theorem reads (os : Os) {H : Type} (enc : TypeId × Value → H) : ∃ places, DataW.whole enc Tryd.prog ((laidWorld os).forCall (fun _ _ => 0) ⟨#[], #[.slice none 0 0, .int .i64 0], []⟩).memory Tryd.f7.params.toList Rows.digestPiecesSpec.vars false (#[.slice none 0 0, .int .i64 0] : Array Value).toList 8 = some ([.nil, .lit (.int .i64 0)], [], places) :=
  ⟨[], by kernel_rfl⟩
set_option maxRecDepth 100000 in
theorem lifted (os : Os) (started : os.Started) (H : Type) (enc : TypeId × Value → H) (F : Stop.Interp) :
    ReturnsInHanded {} Tryd.checked os 7 .any ((Rows.OpenSpec.upto Rows.digestPiecesSpec).preRow enc Tryd.prog Tryd.f7 Rows.digestPiecesUptoRow.domain false Rows.digestPiecesUptoRow.laid) (((Rows.OpenSpec.upto Rows.digestPiecesSpec).at F).post enc Tryd.prog Tryd.f7 false true false false) := by
  obtain ⟨places, hx⟩ := reads os enc
  refine returnsInHanded_of_row (C := Tryd.checked) (s := Rows.OpenSpec.upto Rows.digestPiecesSpec) own started (by kernel_rfl) Tryd.func7
    (witness_row_at (enc := enc) (C := Tryd.checked) false (laidWorld os) #[.slice none 0 0, .int .i64 0] rfl (by kernel_rfl) (by kernel_rfl) (by kernel_rfl)
      (OpenSpec.preRow_of_cond 8 hx (by kernel_rfl) (fun k hk => by cases hk; kernel_rfl) (by kernel_rfl) (laid_met os))) ?_
  intro W base args ds gs before hval hW _ hcond _ hL _ _
  exact contract H enc W base args ds gs before (tb_of_laid hL) hval hW (hcond _ rfl)
theorem said : Rows.DigestPiecesUptoSaid :=
  OpenClaim.holds_of_cond 7 Tryd.f7 rfl rfl rfl rfl rfl rfl rfl ⟨rfl, rfl, rfl, rfl, rfl⟩ rfl rfl rfl rfl rfl (by kernel_rfl) Tryd.func7 (by kernel_rfl)
    (of_decide_eq_true (by kernel_rfl)) (by unfold Func.isWrapper; first | (rw [if_pos (by decide +kernel)]; kernel_rfl) | (rw [if_neg (by decide +kernel)]; exact ⟨rfl, rfl⟩))
    (fun os started H enc _ F => by rw [OpenClaim.pre_eq_preRow]; exact lifted os started H enc F)
theorem plain (f : FuncId) (fn : Func) (hf : Tryd.pinned.checked.prog.funcNamed "graft/graftlaw1.DigestPieces" = some f) (hfn : Tryd.pinned.checked.prog.funcs[f]? = some fn) :
    false = Tryd.pinned.checked.prog.looks [] ∧ ∀ (j : Nat) t, fn.params[j]? = some t → Tryd.pinned.checked.prog.wantsStandIn t = false := by
  obtain rfl : f = 7 := Option.some.inj ((show Tryd.prog.funcNamed "graft/graftlaw1.DigestPieces" = some 7 by kernel_rfl).symm.trans hf) |>.symm
  obtain rfl : fn = Tryd.f7 := (Option.some.inj (Tryd.func7.symm.trans hfn)).symm
  refine ⟨by kernel_rfl, fun j t ht => ?_⟩
  rw [Tryd.params7] at ht
  have h26 : t = 38 ∨ t = 3 := by
    match j, ht with
    | 0, h => exact .inl (Option.some.inj h).symm
    | 1, h => exact .inr (Option.some.inj h).symm
    | j + 2, h => simp at h
  rcases h26 with h26 | h26
  · rw [h26]
    exact (by kernel_rfl : Tryd.prog.wantsStandIn 38 = false)
  · rw [h26]
    exact (by kernel_rfl : Tryd.prog.wantsStandIn 3 = false)
end Go.Proofs.YtkppejaigodgiaaDoor.DPieces
namespace Go.Proofs.YtkppejaigodgiaaDoor
theorem digestPieces_card : Rows.DigestPiecesUptoCardSaid :=
  Claim7.holds_tied_plain_at .later [] _ _ _ _ DPieces.said (fun _ h => by cases h) (by kernel_rfl) (fun _ h => by cases h) digestPiecesUpto_row_tie rfl ⟨rfl, rfl⟩ (by kernel_rfl) rfl DPieces.plain (by kernel_rfl)
#print axioms digestPieces_card
end Go.Proofs.YtkppejaigodgiaaDoor
