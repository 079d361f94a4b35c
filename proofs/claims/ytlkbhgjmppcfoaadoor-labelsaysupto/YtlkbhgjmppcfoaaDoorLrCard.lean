/- LabelSays: the row and the card. -/
import Derived.Test.YtlkbhgjmppcfoaaDoorLrU
import Derived.Test.YtlkbhgjmppcfoaaDoorLrD
namespace Go.Proofs.YtlkbhgjmppcfoaaDoor.DLs
open Go.ChangeShapes Go.WideShapes Go.ChangeAt Go.RowKit
open Go.ChangeMaps (open_string shut_string)
open Go.Proofs.YtlkbhgjmppcfoaaDoor.DLc hiding open_fing tb_of_laid laidWorld
set_option maxRecDepth 100000
theorem gTH : Tryd.prog.globalNamed "graft/graftref1.tableH" = some 2 := by kernel_rfl
theorem tTH : (Tryd.prog.globals[2]?).map (·.type) = some 76 := by kernel_rfl
theorem gTK : Tryd.prog.globalNamed "graft/graftref1.tableK" = some 3 := by kernel_rfl
theorem tTK : (Tryd.prog.globals[3]?).map (·.type) = some 85 := by kernel_rfl
def laid10 : List (String × DataW Unit) := [("graft/graftref1.tableK", Rows.laid_graft_graftref1_tableK), ("graft/graftref1.tableH", Rows.laid_graft_graftref1_tableH), ("math/bits.deBruijn32tab", Rows.laid_math_bits_deBruijn32tab), ("math/bits.deBruijn64tab", Rows.laid_math_bits_deBruijn64tab), ("internal/strconv.uint64pow10", Rows.laid_internal_strconv_uint64pow10), ("graft/digest.digits16", Rows.laid_graft_digest_digits16), ("graft/digest.digits32", Rows.laid_graft_digest_digits32), ("graft/digest.startState", Rows.laid_graft_digest_startState), ("graft/digest.roundConstants", Rows.laid_graft_digest_roundConstants), ("graft/label.kinds", Rows.laid_graft_label_kinds)]
theorem tabs10 {W : World} (h : laidMetH Tryd.prog laid10 W) : (Lib.TabIs Tryd.prog W "graft/graftref1.tableK" .u32 (zs Sha.roundN) ∧ Lib.TabIs Tryd.prog W "graft/graftref1.tableH" .u32 (zs Sha.startN)) ∧ (Lib.TabIs Tryd.prog W "graft/digest.digits16" .u8 (zs D16) ∧ Lib.TabIs Tryd.prog W "graft/digest.digits32" .u8 (zs D32)) ∧ (Lib.TabIs Tryd.prog W "graft/digest.startState" .u32 (zs Sha.startN) ∧ Lib.TabIs Tryd.prog W "graft/digest.roundConstants" .u32 (zs Sha.roundN)) ∧ ∃ cs : Array Value, W.var? Tryd.prog "graft/label.kinds" = some cs ∧
    (cs[2]? = some (.string ⟨#[116, 101, 120, 116]⟩) ∧ cs[3]? = some (.int .i64 1)) ∧ (cs[4]? = some (.string ⟨#[115, 111, 117, 114, 99, 101]⟩) ∧ cs[5]? = some (.int .i64 3)) ∧ (cs[6]? = some (.string ⟨#[111, 117, 116, 112, 117, 116]⟩) ∧ cs[7]? = some (.int .i64 4)) ∧ (cs[8]? = some (.string ⟨#[109, 101, 109, 98, 101, 114]⟩) ∧ cs[9]? = some (.int .i64 8)) := by
  rw [MakeChecks.laidMetH_plain _ _ _ (by kernel_rfl)] at h
  obtain ⟨ps, ⟨a0, b0, cs0, f0, p0, q0, hg0, ht0, hv0, hd0, ⟨a1, b1, cs1, f1, p1, q1, hg1, ht1, hv1, hd1, ⟨a2, b2, cs2, f2, p2, q2, hg2, ht2, hv2, hd2, ⟨a3, b3, cs3, f3, p3, q3, hg3, ht3, hv3, hd3, ⟨a4, b4, cs4, f4, p4, q4, hg4, ht4, hv4, hd4, ⟨a5, b5, cs5, f5, p5, q5, hg5, ht5, hv5, hd5, ⟨a6, b6, cs6, f6, p6, q6, hg6, ht6, hv6, hd6, ⟨a7, b7, cs7, f7, p7, q7, hg7, ht7, hv7, hd7, ⟨a8, b8, cs8, f8, p8, q8, hg8, ht8, hv8, hd8, ⟨a9, b9, cs9, f9, p9, q9, hg9, ht9, hv9, hd9, _, _⟩, _⟩, _⟩, _⟩, _⟩, _⟩, _⟩, _⟩, _⟩, _⟩, _⟩ := h
  obtain rfl := Option.some.inj (gTK.symm.trans hg0)
  obtain rfl := Option.some.inj (tTK.symm.trans ht0)
  obtain rfl := Option.some.inj (gTH.symm.trans hg1)
  obtain rfl := Option.some.inj (tTH.symm.trans ht1)
  obtain rfl := Option.some.inj (gD16.symm.trans hg5)
  obtain rfl := Option.some.inj (tD16.symm.trans ht5)
  obtain rfl := Option.some.inj (gD32.symm.trans hg6)
  obtain rfl := Option.some.inj (tD32.symm.trans ht6)
  obtain rfl := Option.some.inj (gSt.symm.trans hg7)
  obtain rfl := Option.some.inj (tSt.symm.trans ht7)
  obtain rfl := Option.some.inj (gRc.symm.trans hg8)
  obtain rfl := Option.some.inj (tRc.symm.trans ht8)
  obtain rfl := Option.some.inj (gKi.symm.trans hg9)
  obtain rfl := Option.some.inj (tKi.symm.trans ht9)
  refine ⟨⟨?_, ?_⟩, ⟨?_, ?_⟩, ⟨?_, ?_⟩, ?_⟩
  · unfold Lib.TabIs
    rw [hv0, ← Lib.cells_of_tab Tryd.underlying85 Tryd.underlying75 cu32 cW64 hd0]
  · unfold Lib.TabIs
    rw [hv1, ← Lib.cells_of_tab Tryd.underlying76 Tryd.underlying75 cu32 cW8 hd1]
  · unfold Lib.TabIs
    rw [hv5, ← Lib.cells_of_tab Tryd.underlying55 Tryd.underlying5 cells5 cA16 hd5]
  · unfold Lib.TabIs
    rw [hv6, ← Lib.cells_of_tab Tryd.underlying23 Tryd.underlying5 cells5 cA32 hd6]
  · unfold Lib.TabIs
    rw [hv7, ← Lib.cells_of_tab Tryd.underlying76 Tryd.underlying75 cu32 cW8 hd7]
  · unfold Lib.TabIs
    rw [hv8, ← Lib.cells_of_tab Tryd.underlying85 Tryd.underlying75 cu32 cW64 hd8]
  · have k1 := kind_at hd9 1 (by omega) [116, 101, 120, 116] 1 rfl
    have k2 := kind_at hd9 2 (by omega) [115, 111, 117, 114, 99, 101] 3 rfl
    have k3 := kind_at hd9 3 (by omega) [111, 117, 116, 112, 117, 116] 4 rfl
    have k4 := kind_at hd9 4 (by omega) [109, 101, 109, 98, 101, 114] 8 rfl
    exact ⟨_, hv9, by simpa using k1, by simpa using k2, by simpa using k3, by simpa using k4⟩
theorem row_of_tab {W : World} {name : String} {g : Nat} {l : List Nat} (hg : Tryd.prog.globalNamed name = some g) (h : Lib.TabIs Tryd.prog W name .u32 (zs l)) : ∃ t f, W.heap[g]? = some (.cells (Sha.ws l) t f) := by
  unfold Lib.TabIs World.var? at h
  rw [hg] at h
  simp only [Option.bind_some] at h
  split at h
  · rename_i cs t f hh
    refine ⟨t, f, hh.trans ?_⟩
    rw [Option.some.inj h]
    simp [zs, Sha.ws]
  · cases h
theorem tb_of_laid {W : World} (h : laidMetH Tryd.prog laid10 W) : (Tx W ∧ Sha.Tb W ∧ Tk W) ∧ Sha.Tr W := by
  obtain ⟨⟨ha, hb⟩, ⟨h16, h32⟩, ⟨hc, hd⟩, cs, hv, ⟨k2, k3⟩, ⟨k4, k5⟩, ⟨k6, k7⟩, ⟨k8, k9⟩⟩ := tabs10 h
  have A16 : ∀ j, j < 16 → W.cell? ⟨0, j, none⟩ = some (.int .u8 ((g16 j : Nat) : Int)) := fun j hj => by have := h16.cell gD16 j hj; rw [zs_getD] at this; exact this
  have A32 : ∀ j, j < 32 → W.cell? ⟨4, j, none⟩ = some (.int .u8 ((g32 j : Nat) : Int)) := fun j hj => by have := h32.cell gD32 j hj; rw [zs_getD] at this; exact this
  have B : ∀ j, j < 8 → W.cell? ⟨5, j, none⟩ = some (.int .u32 ((Sha.startN.getD j 0 : Nat) : Int)) := fun j hj => by have := hc.cell gSt j hj; rw [zs_getD] at this; exact this
  have C : ∀ j, j < 64 → W.cell? ⟨6, j, none⟩ = some (.int .u32 ((Sha.roundN.getD j 0 : Nat) : Int)) := fun j hj => by have := hd.cell gRc j hj; rw [zs_getD] at this; exact this
  have hz : 6 < W.heap.size := by
    have h2 := C 0 (by decide)
    rcases Nat.lt_or_ge 6 W.heap.size with h | h
    · exact h
    · simp [World.cell?, Array.getElem?_eq_none h] at h2
  obtain ⟨t, f, hr⟩ : ∃ t f, W.heap[1]? = some (.cells cs t f) := by
    unfold World.var? at hv
    rw [gKi] at hv
    simp only [Option.bind_some] at hv
    split at hv
    · rename_i cs' t f hh
      exact ⟨t, f, by rw [hh, Option.some.inj hv]⟩
    · cases hv
  exact ⟨⟨⟨by omega, A16, A32⟩, ⟨hz, B, C⟩, ⟨by omega, by simp [World.cell?, hr, k2], by simp [World.cell?, hr, k3], by simp [World.cell?, hr, k4], by simp [World.cell?, hr, k5], by simp [World.cell?, hr, k6], by simp [World.cell?, hr, k7], by simp [World.cell?, hr, k8], by simp [World.cell?, hr, k9]⟩⟩, row_of_tab gTH hb, row_of_tab gTK ha⟩
/-- A world for the witness. -/
noncomputable def laidWorld (os : Go.Os) : World :=
  { World.holding Tryd.prog os ⟨#[], #[], []⟩ with heap := ((((((((((World.holding Tryd.prog os ⟨#[], #[], []⟩).heap.modify 2 (laidC ((zs Sha.startN).map (Value.int .u32)))).modify 3 (laidC ((zs Sha.roundN).map (Value.int .u32)))).modify 1 (laidC kindsC)).modify 0 (laidC ((zs D16).map (Value.int .u8)))).modify 4 (laidC ((zs D32).map (Value.int .u8)))).modify 5 (laidC ((zs Sha.startN).map (Value.int .u32)))).modify 6 (laidC ((zs Sha.roundN).map (Value.int .u32)))).modify 8 (laidC (p10.map (Value.int .u64)))).modify 9 (laidC (db32.map (Value.int .u8)))).modify 10 (laidC (db64.map (Value.int .u8))) }
theorem one_le {H : Type} (d : DataW H) : 1 ≤ Rows.uptoBulk d := by
  cases d with
  | lit l => cases l <;> simp [Rows.uptoBulk]
  | _ => simp [Rows.uptoBulk]
theorem length_le {H : Type} : ∀ l : List (DataW H), l.length ≤ Rows.uptoBulkAll l
  | [] => by simp [Rows.uptoBulkAll]
  | x :: r => by have h1 := one_le x; have h2 := length_le r; simp only [Rows.uptoBulkAll, List.length_cons]; omega
theorem part_le {H : Type} {d : DataW H} : ∀ {l : List (DataW H)}, d ∈ l → Rows.uptoBulk d ≤ Rows.uptoBulkAll l
  | x :: r, h => by
    simp only [Rows.uptoBulkAll]
    rcases List.mem_cons.1 h with e | e
    · subst e; omega
    · have := part_le e; omega
/-- A finger that is handed in. -/
theorem open_fing {H : Type} {enc : TypeId × Value → H} {W : World} {base : Nat} {v : Value} {D : DataW H} {p : List MemPlace} (hv : Value.okWide Tryd.prog W .any base 26 v) (h : DataW.Trod enc Tryd.prog W 0 (fun _ => true) true 26 v D p)
    (hw : (DataW.weights Tryd.prog 26 D).all (· ≤ reachBytes) = true) : ∃ f : Fg, v = .agg (fing f) ∧ Ls f.v f.L W ∧ f.L.length ≤ Rows.uptoBulk D := by
  obtain ⟨fuel, h⟩ := h
  obtain ⟨cs, rfl, hcs, ts, ht1, -, ht3⟩ : ∃ cs, v = .agg cs ∧ cs.size = Tryd.prog.cellsOf 26 ∧ Row.okWide Tryd.prog W .any base 26 cs := by
    unfold Value.okWide at hv
    rw [Tryd.underlying26] at hv
    exact hv
  obtain ⟨y0, y1, y2, y3, y4, y5, y6, n, hx, hl, h0, h1, h2, h3, h4, h5, h6⟩ := trod7 Tryd.underlying26 h
  simp only [Value.cells] at h0 h1 h2 h3 h4 h5 h6 hl
  rw [cells3] at h0 h4
  rw [cLabels] at h1
  rw [cells4] at h2
  rw [cells9] at h3 h6
  rw [cSum] at h5
  rw [cFinger] at hl
  obtain ⟨k, k1, -, k3⟩ := DataW.trod_int Tryd.underlying3 h0
  obtain ⟨sf, s1, -⟩ := DataW.trod_bool Tryd.underlying4 h2
  obtain ⟨ou, o1, -, -⟩ := DataW.trod_string Tryd.underlying9 h3
  obtain ⟨ix, i1, -, i3⟩ := DataW.trod_int Tryd.underlying3 h4
  obtain ⟨sm, m1, m2, m3, -⟩ := open_row Tryd.underlying24 Tryd.underlying5 cells5 (by rw [List.length_take, List.length_drop]; omega) h5
  obtain ⟨nm, n1, -, -⟩ := DataW.trod_string Tryd.underlying9 h6
  obtain ⟨v1, hv1⟩ : ∃ v1, cs[1]? = some v1 := ⟨_, Array.getElem?_eq_getElem (by rw [hcs, cFinger]; omega)⟩
  have hv1' : (cs.toList.drop 1).take 1 = [v1] := by
    have : cs.toList[1]? = some v1 := by simpa using hv1
    apply List.ext_getElem?
    intro i
    match i with
    | 0 => simpa [List.getElem?_take, List.getElem?_drop] using this
    | i + 1 => simp [List.getElem?_take]
  obtain ⟨u, hu1, hu2⟩ := ht3 1 v1 hv1
  have hts : ts = [3, 22, 4, 9, 3, 5, 5, 5, 5, 5, 5, 5, 5, 5, 5, 5, 5, 5, 5, 5, 5, 5, 5, 5, 5, 5, 5, 5, 5, 5, 5, 5, 5, 5, 5, 5, 5, 9] := Option.some.inj (ht1.symm.trans cts)
  rw [hts] at hu1
  obtain rfl : 22 = u := Option.some.inj hu1
  have hok : Value.okWide Tryd.prog W .any base 22 v1 := by
    unfold Value.okWide
    rw [Tryd.underlying22]
    exact hu2
  rw [hv1'] at h1
  obtain ⟨a0, len, cap, rfl⟩ := okWide_slice Tryd.underlying22 hok
  obtain ⟨L, y1', yb, l1⟩ := open_ls hok ⟨n, h1⟩
  have hwl : L.length ≤ 4398046511104 := by
    rcases l1 with ⟨_, rfl⟩ | ⟨es, sp, he, hlen⟩
    · simp
    · have hx' : D = _ := hx
      rw [hx'] at hw
      simp only [DataW.weights, Tryd.underlying26] at hw
      have hs := sized_slice (P := Tryd.prog) hw (j := 1) (t := 22) (elems := es) (spare := sp) rfl (by rw [← he]; rfl) Tryd.underlying22
      have h2 : reachBytes = 140737488351232 := by decide
      rw [bytesL] at hs
      omega
  have hbk : L.length ≤ Rows.uptoBulk D := by
    have hx' : D = _ := hx
    have h1 : L.length ≤ Rows.uptoBulk y1.1 := by
      rcases l1 with ⟨_, rfl⟩ | ⟨es, sp, he, hlen⟩
      · simp
      · rw [he, ← hlen]
        have := length_le es
        simp only [Rows.uptoBulk]
        omega
    have h2 := part_le (l := [y0.1, y1.1, y2.1, y3.1, y4.1, y5.1, y6.1]) (d := y1.1) (by simp)
    rw [hx']
    simp only [Rows.uptoBulk]
    omega
  refine ⟨⟨k, .slice a0 len cap, L, sf, ou, ix, sm, nm, m1, m2, wf_i64 k3, wf_i64 i3, hwl, yb⟩, ?_, y1', hbk⟩
  congr 1
  apply Array.ext'
  have e0 : cs.toList = cs.toList.take 1 ++ ((cs.toList.drop 1).take 1 ++ ((cs.toList.drop 2).take 1 ++ ((cs.toList.drop 3).take 1 ++ ((cs.toList.drop 4).take 1 ++ ((cs.toList.drop 5).take 32 ++ (cs.toList.drop 37).take 1))))) := by
    have s : ∀ (l : List Value) (a b : Nat), (l.drop a).take b ++ l.drop (a + b) = l.drop a := fun l a b => by rw [← List.drop_drop]; exact List.take_append_drop b _
    have e6 : (cs.toList.drop 37).take 1 = cs.toList.drop 37 := List.take_of_length_le (by rw [List.length_drop]; omega)
    rw [e6, s cs.toList 5 32, s cs.toList 4 1, s cs.toList 3 1, s cs.toList 2 1, s cs.toList 1 1]
    exact (List.take_append_drop 1 _).symm
  rw [e0]
  have k1' : cs.toList.take 1 = [.int .i64 k] := by simpa using k1
  rw [k1', hv1', s1, o1, i1, m3, n1]
  simp [fing]
theorem all_left {H : Type} {t : TypeId} {ts : List TypeId} {d : DataW H} {ds : List (DataW H)} (h : (DataW.weightsEach Tryd.prog (t :: ts) (d :: ds)).all (· ≤ reachBytes) = true) : (DataW.weights Tryd.prog t d).all (· ≤ reachBytes) = true := by
  rw [DataW.weightsEach, List.all_append, Bool.and_eq_true] at h
  exact h.1
theorem contract (H : Type) (enc : TypeId × Value → H) (W : World) (base : Nat) (args : Array Value) (ds gs : List (DataW H)) (before : List MemPlace) (hx : Tx W) (ht : Sha.Tb W) (hk : Tk W) (hr : Sha.Tr W)
    (hval0 : ∀ (j : Nat) t v, Tryd.f4.params[j]? = some t → args[j]? = some v → Value.okWide Tryd.prog W .any base t v)
    (hW : DataW.Whole enc Tryd.prog Tryd.f4.params.toList Rows.labelSaysSpec.vars false W args.toList ds gs before)
    (hsz0 : (DataW.weightsEach Tryd.prog (Tryd.f4.params.toList ++ Rows.labelSaysSpec.plain.varTypes Tryd.prog) (ds ++ gs)).all (· ≤ reachBytes) = true)
    (hup : Rows.uptoSmall H (ds ++ gs) = true) :
    Calls Tryd.prog 4 args W fun e W' => ∃ v, e = .returned v ∧ Rows.labelSaysSpec.post enc Tryd.prog Tryd.f4 false true false false W args v W' := by
  have hval := hval0
  have hsz := hsz0
  have hW' := hW
  obtain ⟨p, q, hA0, hV, rfl, hfz, hnd⟩ := hW
  have hA : DataW.TrodAll enc Tryd.prog W 0 (fun _ => true) true Tryd.f4.params.toList args.toList ds p := hA0
  rw [Tryd.params4] at hA hval hsz
  obtain ⟨v0, d0, rfl, rfl, h0⟩ := trodAll_one hA
  obtain ⟨rfl, rfl⟩ := trodVars_none hV
  obtain ⟨f, rfl, hls, hbk⟩ := open_fing (hval 0 26 v0 rfl rfl) h0 (all_left hsz)
  clear hA0 hval0
  simp only [List.append_nil] at hW' hup
  have hbl0 : Rows.uptoBulkAll [d0] ≤ 1048576 := of_decide_eq_true hup
  have k0 := part_le (l := [d0]) (d := d0) (by simp)
  have hlt0 : ∀ x ∈ p, x.block < W.heap.size := fun x hx => by simpa using hW'.lt x (by simp [hx])
  refine (says_any f (by omega) W hk hx ht hr hls).mono fun e W' ⟨he, hbl⟩ => ?_
  subst he
  have harg0 := Below.trod laidOut (by kernel_rfl) (of_decide_eq_true (by kernel_rfl)) h0 hbl hlt0
  exact ⟨_, rfl, _, _, _, [], _, [], hW', trodAll_mk1 (shut_bool Tryd.underlying4 _), trodAll_mk1 harg0, rfl, hbl.frame _, fun h => by cases h⟩
def wit : Array Value := #[.agg (fing fgN)]
theorem laid_met (os : Go.Os) : laidMet Tryd.prog Rows.labelSaysUptoRow.laid ((laidWorld os).forCall (fun _ _ => 0) ⟨#[], wit, []⟩).memory :=
  laidMet_of_run' 8 (by kernel_rfl) (by kernel_rfl)
theorem reads (os : Go.Os) {H : Type} (enc : TypeId × Value → H) : ∃ places, DataW.whole enc Tryd.prog ((laidWorld os).forCall (fun _ _ => 0) ⟨#[], wit, []⟩).memory Tryd.f4.params.toList Rows.labelSaysSpec.vars false wit.toList 8 = some ([.agg [.lit (.int .i64 0), .nil, .lit (.bool false), .lit (.string []), .lit (.int .i64 0), .agg (dlits (List.replicate 32 0)), .lit (.string [])]], [], places) :=
  ⟨[], by kernel_rfl⟩
theorem lifted (os : Go.Os) (started : os.Started) (H : Type) (enc : TypeId × Value → H) (F : Stop.Interp) :
    ReturnsInHanded {} Tryd.checked os 4 .any ((Rows.OpenSpec.upto Rows.labelSaysSpec).preRow enc Tryd.prog Tryd.f4 Rows.labelSaysUptoRow.domain false Rows.labelSaysUptoRow.laid) (((Rows.OpenSpec.upto Rows.labelSaysSpec).at F).post enc Tryd.prog Tryd.f4 false true false false) := by
  obtain ⟨places, hx⟩ := reads os enc
  refine returnsInHanded_of_row (C := Tryd.checked) (s := Rows.OpenSpec.upto Rows.labelSaysSpec) own started (by kernel_rfl) Tryd.func4
    (witness_row_at (enc := enc) (C := Tryd.checked) false (laidWorld os) wit rfl (by kernel_rfl) (by kernel_rfl) (by kernel_rfl)
      (OpenSpec.preRow_of_cond 8 hx (by kernel_rfl) (fun k hk => by cases hk; kernel_rfl) (by kernel_rfl) (laid_met os))) ?_
  intro W base args ds gs before hval hW _ hcond hsz hL _ _
  exact contract H enc W base args ds gs before (tb_of_laid hL).1.1 (tb_of_laid hL).1.2.1 (tb_of_laid hL).1.2.2 (tb_of_laid hL).2 hval hW hsz (hcond _ rfl)
theorem said : Rows.LabelSaysUptoSaid :=
  OpenClaim.holds_of_cond 4 Tryd.f4 rfl rfl rfl rfl rfl rfl rfl ⟨rfl, rfl, rfl, rfl, rfl⟩ rfl rfl rfl rfl rfl (by kernel_rfl) Tryd.func4 (by kernel_rfl)
    (of_decide_eq_true (by kernel_rfl)) (by unfold Func.isWrapper; first | (rw [if_pos (by decide +kernel)]; kernel_rfl) | (rw [if_neg (by decide +kernel)]; exact ⟨rfl, rfl⟩))
    (fun os started H enc _ F => by rw [OpenClaim.pre_eq_preRow]; exact lifted os started H enc F)
theorem plain (f : FuncId) (fn : Func) (hf : Tryd.pinned.checked.prog.funcNamed "graft/graftlaw2.LabelSays" = some f) (hfn : Tryd.pinned.checked.prog.funcs[f]? = some fn) :
    false = Tryd.pinned.checked.prog.looks [] ∧ ∀ (j : Nat) t, fn.params[j]? = some t → Tryd.pinned.checked.prog.wantsStandIn t = false := by
  obtain rfl : f = 4 := Option.some.inj ((show Tryd.prog.funcNamed "graft/graftlaw2.LabelSays" = some 4 by kernel_rfl).symm.trans hf) |>.symm
  obtain rfl : fn = Tryd.f4 := (Option.some.inj (Tryd.func4.symm.trans hfn)).symm
  refine ⟨by kernel_rfl, fun j t ht => ?_⟩
  rw [Tryd.params4] at ht
  match j, ht with
  | 0, h =>
    obtain rfl := (Option.some.inj h).symm
    exact (by kernel_rfl : Tryd.prog.wantsStandIn 26 = false)
  | j + 1, h => simp at h
end Go.Proofs.YtlkbhgjmppcfoaaDoor.DLs
namespace Go.Proofs.YtlkbhgjmppcfoaaDoor
theorem labelSays_card : Rows.LabelSaysUptoCardSaid :=
  Claim7.holds_tied_plain_at .later [] _ _ _ _ DLs.said (fun _ h => by cases h) (by kernel_rfl) (fun _ h => by cases h) labelSaysUpto_row_tie rfl ⟨rfl, rfl⟩ (by kernel_rfl) rfl DLs.plain (by kernel_rfl)
#print axioms labelSays_card
end Go.Proofs.YtlkbhgjmppcfoaaDoor
