/- DigestHashers: the row and the card. -/
import Derived.Test.YtkppejaigodgiacDoorHsM
import Derived.Test.YtkppejaigodgiacDoorTabS
import Derived.Carry
import Derived.Deep.Slices
import Derived.OpenShut
namespace Go.Proofs.YtkppejaigodgiacDoor.DHashers
open Go.ChangeShapes Go.WideShapes Go.ChangeAt Go.RowKit Go.Deep
theorem one_le {H : Type} (d : DataW H) : 1 ≤ Rows.uptoBulk d := by
  cases d with
  | lit l => cases l <;> simp [Rows.uptoBulk]
  | _ => simp [Rows.uptoBulk]
theorem length_le {H : Type} : ∀ l : List (DataW H), l.length ≤ Rows.uptoBulkAll l
  | [] => by simp [Rows.uptoBulkAll]
  | x :: r => by have h1 := one_le x; have h2 := length_le r; simp only [Rows.uptoBulkAll, List.length_cons]; omega
theorem part_le {H : Type} {d : DataW H} : ∀ {l : List (DataW H)}, d ∈ l → Rows.uptoBulk d ≤ Rows.uptoBulkAll l
  | x :: r, h => by
    simp only [Rows.uptoBulkAll]
    rcases List.mem_cons.1 h with e | e
    · subst e; omega
    · have := part_le e; omega
theorem sum_le {H α : Type} (f : α → Nat) (g : α → DataW H) : ∀ l : List α, (∀ x ∈ l, f x ≤ Rows.uptoBulk (g x)) → (l.map f).sum ≤ Rows.uptoBulkAll (l.map g)
  | [], _ => by simp
  | x :: r, h => by
    have h1 := sum_le f g r (fun y hy => h y (List.mem_cons_of_mem _ hy))
    have h2 := h x (by simp)
    simp only [List.map_cons, List.sum_cons, Rows.uptoBulkAll]
    omega
theorem cells22 : Tryd.prog.cellsOf 22 = 1 := by kernel_rfl
theorem cells3 : Tryd.prog.cellsOf 3 = 1 := by kernel_rfl
theorem cells37 : Tryd.prog.cellsOf 37 = 3 := by kernel_rfl
theorem wf64 {z : Int} (h : (Lit.int .i64 z).wf = true) : Hash.I64 z := by
  simp only [Lit.wf, IntKind.min, IntKind.max, IntKind.bits, IntKind.signed, Bool.and_eq_true, decide_eq_true_eq] at h
  unfold Hash.I64
  simp at h
  omega
theorem open_byz {H : Type} {enc : TypeId × Value → H} {W : World} {n : Nat} {v : Value} {D : DataW H} {Pl : List MemPlace} (h : DataW.trod enc Tryd.prog W 0 (fun _ => true) true n 22 [v] = some (D, Pl)) :
    ∃ d : List Nat, Sha.Byz v d W ∧ Byt d ∧ d.length ≤ Rows.uptoBulk D := by
  rcases open_ints Tryd.underlying22 Tryd.underlying5 cells5 h with ⟨hcs, hx⟩ | ⟨a, len, cap, zs, hcs, _, hl, hm, hz, hx, hcell, hwz⟩
  · obtain rfl : v = .slice none 0 0 := by simpa using hcs
    exact ⟨[], .inl (.inl ⟨rfl, rfl⟩), (fun x hx => by cases hx), by simp⟩
  · obtain rfl : v = .slice (some a) len cap := by simpa using hcs
    simp only [if_true] at hz
    simp only [Prod.mk.injEq] at hx
    by_cases h0 : zs.length = 0
    · obtain rfl : cap = 0 := by omega
      obtain rfl : len = 0 := by omega
      exact ⟨[], .inr ⟨some a, rfl, rfl⟩, (fun x hx => by cases hx), by simp⟩
    · obtain ⟨b, off, rfl, hc⟩ := ints_at hcell (by omega)
      have hw : ∀ z ∈ zs, 0 ≤ z ∧ z < 256 := fun z hz => wf_byte (hwz z hz)
      have hll : ((zs.take len).map Int.toNat).length = len := by rw [List.length_map, List.length_take]; omega
      have hblk : b < W.heap.size := World.block_lt_of_cell? W ⟨b, off + 0, none⟩ (hc 0 (by omega))
      refine ⟨(zs.take len).map Int.toNat, .inl (.inr ⟨b, off, cap, by rw [hll], by omega, hm, hblk, fun j hj => ?_⟩), ?_, ?_⟩
      · rw [hll] at hj
        have hj2 : j < zs.length := by omega
        rw [hc j hj2]
        have h2 : zs.getD j 0 = zs[j] := by simp [List.getD, hj2]
        have h3 : ((zs.take len).map Int.toNat).getD j 0 = zs[j].toNat := by simp [List.getD, hj, hj2]
        rw [h2, h3, Int.toNat_of_nonneg (hw _ (List.getElem_mem hj2)).1]
      · intro x hx
        obtain ⟨z, hz, rfl⟩ := List.mem_map.1 hx
        have := hw z (List.mem_of_mem_take hz)
        omega
      · rw [hll, hx.1]
        have h4 := length_le (lits (H := H) .u8 (zs.take len))
        have h5 : (lits (H := H) .u8 (zs.take len)).length = len := by simp [lits]; omega
        simp only [Rows.uptoBulk]
        omega
set_option maxRecDepth 100000 in
/-- The script that is handed in. -/
theorem open_scr {H : Type} {enc : TypeId × Value → H} {W : World} {base : Nat} {v : Value} {d : DataW H} {p : List MemPlace} (hv : Value.okWide Tryd.prog W .any base 29 v) (h : DataW.Trod enc Tryd.prog W 0 (fun _ => true) true 29 v d p) :
    ∃ l : List Hash.Stp, Hash.Scr v l W ∧ (∀ x ∈ l, Byt x.p ∧ Hash.I64 x.kind ∧ Hash.I64 x.which) ∧ (l.map fun x => x.p.length).sum ≤ Rows.uptoBulk d ∧ l.length ≤ Rows.uptoBulk d := by
  obtain ⟨a0, len, cap, rfl⟩ := okWide_slice Tryd.underlying29 hv
  obtain ⟨fuel, hf⟩ := h
  rcases open_slice Tryd.underlying29 hf with ⟨hcs, hx⟩ | ⟨a, len', cap', m, n, D, Pl, hcs, _, hl, hm, hmm, hx, hi⟩
  · simp [Value.cells] at hcs
    obtain ⟨rfl, rfl, rfl⟩ := hcs
    exact ⟨[], .inl ⟨rfl, rfl⟩, (fun x hx => by cases hx), by simp, by simp⟩
  · simp [Value.cells] at hcs
    obtain ⟨rfl, rfl, rfl⟩ := hcs
    simp only [Value.okWide, Tryd.underlying29, Cell.okWide, Cell.ok] at hv
    obtain ⟨_, _, _, hspot, row, cells, hsh, _⟩ := hv
    have hblk : a.block < W.heap.size := by
      rcases Nat.lt_or_ge a.block W.heap.size with h | h
      · exact h
      · simp [World.shape?, Array.getElem?_eq_none h] at hsh
    obtain ⟨b, off, spot⟩ := a
    simp only at hspot hblk
    subst hspot
    simp only [if_true] at hmm
    subst hmm
    have each : ∀ i, ∃ x : Hash.Stp, i < m → W.cell? ⟨b, off + i * 3, none⟩ = some (.int .i64 x.kind) ∧ W.cell? ⟨b, off + i * 3 + 1, none⟩ = some (.int .i64 x.which) ∧ W.cell? ⟨b, off + i * 3 + 2, none⟩ = some x.pv ∧ Sha.Byz x.pv x.p W ∧ Byt x.p ∧ Hash.I64 x.kind ∧ Hash.I64 x.which ∧ x.p.length ≤ Rows.uptoBulk (D i) := fun i => by
      by_cases him : i < m
      · obtain ⟨cs', h1, h2⟩ := hi i him
        rw [cells37] at h1
        obtain ⟨_, hlen, hcell⟩ := World.cells?_some h1
        obtain ⟨xs, k, hk, hxy, _, hxl, hfd⟩ := DataW.trod_struct Tryd.underlying37 h2
        match xs, hxl, cs', hlen with
        | [y0, y1, y2], _, [c0, c1, c2], _ =>
          have g0 := hfd 0 _ rfl
          have g1 := hfd 1 _ rfl
          have g2 := hfd 2 _ rfl
          simp [cells3, cells22] at g0 g1 g2
          have e0 := hcell 0 (by omega)
          have e1 := hcell 1 (by omega)
          have e2 := hcell 2 (by omega)
          rw [add_add, add_plain] at e0 e1 e2
          simp at e0 e1 e2
          obtain ⟨z0, hz0, _, hw0⟩ := DataW.trod_int Tryd.underlying3 g0
          obtain ⟨z1, hz1, _, hw1⟩ := DataW.trod_int Tryd.underlying3 g1
          obtain ⟨q, hq1, hq2, hq3⟩ := open_byz (D := y2.1) (Pl := y2.2) g2
          simp only [Prod.mk.injEq] at hxy
          simp at hz0 hz1
          refine ⟨⟨z0, z1, c2, q⟩, fun _ => ⟨by rw [e0, hz0], ?_, ?_, hq1, hq2, wf64 hw0, wf64 hw1, ?_⟩⟩
          · rw [← hz1, ← e1, Nat.add_assoc]
          · rw [← e2, Nat.add_assoc]
          · rw [hxy.1]
            simp only [Rows.uptoBulk, Rows.uptoBulkAll, List.map_cons, List.map_nil]
            omega
      · exact ⟨⟨0, 0, .bool true, []⟩, fun h => absurd h him⟩
    obtain ⟨f, hf2⟩ := Classical.axiomOfChoice each
    have hln : ((List.range len).map f).length = len := by simp
    simp only [Prod.mk.injEq] at hx
    refine ⟨(List.range len).map f, .inr ⟨b, off, m, by rw [hln], by rw [hln]; omega, hblk, fun j x hx2 => ?_⟩, ?_, ?_, ?_⟩
    · have hj : j < len := by have := (List.getElem?_eq_some_iff.1 hx2).1; simpa using this
      have : x = f j := by simpa [hj] using hx2.symm
      subst this
      have h1 := hf2 j (by omega)
      exact ⟨h1.1, h1.2.1, h1.2.2.1, h1.2.2.2.1⟩
    · intro x hx2
      obtain ⟨i, hi2, rfl⟩ := List.mem_map.1 hx2
      have h1 := hf2 i (by have := List.mem_range.1 hi2; omega)
      exact ⟨h1.2.2.2.2.1, h1.2.2.2.2.2.1, h1.2.2.2.2.2.2.1⟩
    · have h1 := sum_le (fun i => (f i).p.length) D (List.range len) (fun i hi2 => (hf2 i (by have := List.mem_range.1 hi2; omega)).2.2.2.2.2.2.2)
      rw [hx.1, List.map_map]
      simp only [Rows.uptoBulk]
      have e : ((fun x : Hash.Stp => x.p.length) ∘ f) = fun i => (f i).p.length := rfl
      rw [e]
      omega
    · have h1 := length_le ((List.range len).map D)
      rw [hx.1, hln]
      simp only [Rows.uptoBulk]
      simp at h1
      omega
theorem contract (H : Type) (enc : TypeId × Value → H) (W : World) (base : Nat) (args : Array Value) (ds gs : List (DataW H)) (before : List MemPlace) (ht : Sha.Tb W) (hr : Sha.Tr W)
    (hval0 : ∀ (j : Nat) t v, Tryd.f4.params[j]? = some t → args[j]? = some v → Value.okWide Tryd.prog W .any base t v)
    (hW : DataW.Whole enc Tryd.prog Tryd.f4.params.toList Rows.digestHashersSpec.vars false W args.toList ds gs before)
    (hk : Rows.uptoSmall H (ds ++ gs) = true) :
    Calls Tryd.prog 4 args W fun e W' => ∃ v, e = .returned v ∧ Rows.digestHashersSpec.post enc Tryd.prog Tryd.f4 false true false false W args v W' := by
  have hval := hval0
  have hW' := hW
  obtain ⟨p, q, hA0, hV, rfl, hfz, hnd⟩ := hW
  have hA : DataW.TrodAll enc Tryd.prog W 0 (fun _ => true) true Tryd.f4.params.toList args.toList ds p := hA0
  rw [Tryd.params4] at hA hval
  obtain ⟨v0, d0, rfl, rfl, h0⟩ := trodAll_one hA
  obtain ⟨rfl, rfl⟩ := trodVars_none hV
  obtain ⟨l, y0, t0, l0, l1⟩ := open_scr (hval 0 29 v0 rfl rfl) h0
  clear hA0 hval0
  simp only [List.append_nil] at hW' hk
  have hb := part_le (l := [d0]) (d := d0) (by simp)
  have hbk : Rows.uptoBulkAll [d0] ≤ 1048576 := of_decide_eq_true hk
  have hlt : ∀ x ∈ p, x.block < W.heap.size := fun x hx => by simpa using hW'.lt x (by simpa using hx)
  refine (Hash.hashers_any l (by omega) (by omega) t0 v0 W ht hr y0).mono fun e W' ⟨he, hbl⟩ => ?_
  subst he
  have harg0 := Below.trod laidOut (by kernel_rfl) (of_decide_eq_true (by kernel_rfl)) h0 hbl hlt
  exact ⟨_, rfl, _, _, _, [], _, [], hW', trodAll_mk1 (shut_bool Tryd.underlying4 _), trodAll_mk1 harg0, rfl, hbl.frame _, fun h => by cases h⟩

theorem laid_met (os : Os) : laidMet Tryd.prog Rows.digestHashersUptoRow.laid ((laidWorldS os).forCall (fun _ _ => 0) ⟨#[], #[.slice none 0 0], []⟩).memory :=
  laidMet_of_run' 8 (by kernel_rfl) (by kernel_rfl)
theorem reads (os : Os) {H : Type} (enc : TypeId × Value → H) : ∃ places, DataW.whole enc Tryd.prog ((laidWorldS os).forCall (fun _ _ => 0) ⟨#[], #[.slice none 0 0], []⟩).memory Tryd.f4.params.toList Rows.digestHashersSpec.vars false (#[.slice none 0 0] : Array Value).toList 8 = some ([.nil], [], places) :=
  ⟨[], by kernel_rfl⟩
set_option maxRecDepth 100000 in
theorem lifted (os : Os) (started : os.Started) (H : Type) (enc : TypeId × Value → H) (F : Stop.Interp) :
    ReturnsInHanded {} Tryd.checked os 4 .any ((Rows.OpenSpec.upto Rows.digestHashersSpec).preRow enc Tryd.prog Tryd.f4 Rows.digestHashersUptoRow.domain false Rows.digestHashersUptoRow.laid) (((Rows.OpenSpec.upto Rows.digestHashersSpec).at F).post enc Tryd.prog Tryd.f4 false true false false) := by
  obtain ⟨places, hx⟩ := reads os enc
  refine returnsInHanded_of_row (C := Tryd.checked) (s := Rows.OpenSpec.upto Rows.digestHashersSpec) own started (by kernel_rfl) Tryd.func4
    (witness_row_at (enc := enc) (C := Tryd.checked) false (laidWorldS os) #[.slice none 0 0] rfl (by kernel_rfl) (by kernel_rfl) (by kernel_rfl)
      (OpenSpec.preRow_of_cond 8 hx (by kernel_rfl) (fun k hk => by cases hk; kernel_rfl) (by kernel_rfl) (laid_met os))) ?_
  intro W base args ds gs before hval hW _ hcond _ hL _ _
  exact contract H enc W base args ds gs before (tb_of_laid hL).1 (tb_of_laid hL).2 hval hW (hcond _ rfl)
theorem said : Rows.DigestHashersUptoSaid :=
  OpenClaim.holds_of_cond 4 Tryd.f4 rfl rfl rfl rfl rfl rfl rfl ⟨rfl, rfl, rfl, rfl, rfl⟩ rfl rfl rfl rfl rfl (by kernel_rfl) Tryd.func4 (by kernel_rfl)
    (of_decide_eq_true (by kernel_rfl)) (by unfold Func.isWrapper; first | (rw [if_pos (by decide +kernel)]; kernel_rfl) | (rw [if_neg (by decide +kernel)]; exact ⟨rfl, rfl⟩))
    (fun os started H enc _ F => by rw [OpenClaim.pre_eq_preRow]; exact lifted os started H enc F)
theorem plain (f : FuncId) (fn : Func) (hf : Tryd.pinned.checked.prog.funcNamed "graft/graftlaw1.DigestHashers" = some f) (hfn : Tryd.pinned.checked.prog.funcs[f]? = some fn) :
    false = Tryd.pinned.checked.prog.looks [] ∧ ∀ (j : Nat) t, fn.params[j]? = some t → Tryd.pinned.checked.prog.wantsStandIn t = false := by
  obtain rfl : f = 4 := Option.some.inj ((show Tryd.prog.funcNamed "graft/graftlaw1.DigestHashers" = some 4 by kernel_rfl).symm.trans hf) |>.symm
  obtain rfl : fn = Tryd.f4 := (Option.some.inj (Tryd.func4.symm.trans hfn)).symm
  refine ⟨by kernel_rfl, fun j t ht => ?_⟩
  rw [Tryd.params4] at ht
  match j, ht with
  | 0, h =>
    obtain rfl := (Option.some.inj h).symm
    exact (by kernel_rfl : Tryd.prog.wantsStandIn 29 = false)
  | j + 1, h => simp at h
end Go.Proofs.YtkppejaigodgiacDoor.DHashers
namespace Go.Proofs.YtkppejaigodgiacDoor
theorem digestHashers_card : Rows.DigestHashersUptoCardSaid :=
  Claim7.holds_tied_plain_at .later [] _ _ _ _ DHashers.said (fun _ h => by cases h) (by kernel_rfl) (fun _ h => by cases h) digestHashersUpto_row_tie rfl ⟨rfl, rfl⟩ (by kernel_rfl) rfl DHashers.plain (by kernel_rfl)
#print axioms digestHashers_card
end Go.Proofs.YtkppejaigodgiacDoor
