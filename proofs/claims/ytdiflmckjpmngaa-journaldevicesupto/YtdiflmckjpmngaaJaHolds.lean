/- JournalDevices: the row, second form. -/
import Derived.Test.YtdiflmckjpmngaaJaL
import Derived.Test.YtdiflmckjpmngaaRows
import Derived.SizedLaws
import Derived.ChangeSlices
import Derived.SliceStrings
import Derived.OpenShut
import Derived.Carry
import Derived.JoinedCond
import Derived.Deep.Slices
import Derived.ProofKit
namespace Go.Proofs.Ytdiflmckjpmngaa.Devices
open Go.ChangeShapes Go.WideShapes Go.ChangeAt Go.RowKit
theorem own : ownKnob Try.prog.godebug = none := by kernel_rfl
theorem laidOut : laidOutB Try.prog = true := by kernel_rfl
theorem cellsA : Try.prog.cellsOf 35 = 6 := by kernel_rfl
theorem cells3 : Try.prog.cellsOf 3 = 1 := by kernel_rfl
theorem cells5 : Try.prog.cellsOf 5 = 1 := by kernel_rfl
theorem cellsB : Try.prog.cellsOf 25 = 1 := by kernel_rfl
theorem cellsD : Try.prog.cellsOf 28 = 2 := by kernel_rfl
theorem cellsF : Try.prog.cellsOf 26 = 2 := by kernel_rfl
theorem cellsK : Try.prog.cellsOf 33 = 2 := by kernel_rfl
theorem one_le {H : Type} (d : DataW H) : 1 ≤ Rows.uptoBulk d := by
  cases d with
  | lit l => cases l <;> simp [Rows.uptoBulk]
  | _ => simp [Rows.uptoBulk]
theorem length_le {H : Type} : ∀ l : List (DataW H), l.length ≤ Rows.uptoBulkAll l
  | [] => by simp [Rows.uptoBulkAll]
  | x :: r => by have h1 := one_le x; have h2 := length_le r; simp only [Rows.uptoBulkAll, List.length_cons]; omega
theorem part_le {H : Type} {d : DataW H} : ∀ {l : List (DataW H)}, d ∈ l → Rows.uptoBulk d ≤ Rows.uptoBulkAll l
  | x :: r, h => by
    simp only [Rows.uptoBulkAll]
    rcases List.mem_cons.1 h with rfl | h
    · omega
    · have := part_le h; omega
theorem bulk_part {H : Type} {xs : List (DataW H × List MemPlace)} {i : Nat} {y : DataW H × List MemPlace} (h : xs[i]? = some y) : Rows.uptoBulk y.1 ≤ Rows.uptoBulk (.agg (xs.map (·.1)) : DataW H) := by
  have := part_le (List.mem_map_of_mem (f := (·.1)) (List.mem_of_getElem? h))
  simp only [Rows.uptoBulk]
  omega
/-- A slice of rows as it lies, in blocks below B. -/
def Rd (B : Nat) (W : World) (sz : Nat) (v : Value) (l : List (Array Value)) : Prop :=
  ∃ oa cap, v = .slice oa l.length cap ∧ l.length ≤ cap ∧ cap ≤ maxLen ∧ ∀ (i : Nat) c, l[i]? = some c → ∃ g o, oa = some ⟨g, o, none⟩ ∧ g < B ∧ c.size = sz ∧ W.rangeAt g (o + i * sz) c.toList
section
variable {H : Type} {enc : TypeId × Value → H} {P : Program} {W : World} {base fuel : Nat} {sp : Nat → Bool} {held : Bool} {t e : TypeId} {x : DataW H × List MemPlace}
/-- A slice of rows, opened. -/
theorem open_rows {sz : Nat} (hsz : 0 < sz) (ht : P.underlying t = some (.slice e)) (hce : P.cellsOf e = sz) {v : Value} (h : DataW.trod enc P W base sp held fuel t [v] = some x) :
    ∃ l : List (Array Value), Rd W.heap.size W sz v l ∧ l.length ≤ Rows.uptoBulk x.1 ∧ ∀ a ∈ l, ∃ m y, m < fuel ∧ DataW.trod enc P W base sp held m e a.toList = some y ∧ Rows.uptoBulk y.1 ≤ Rows.uptoBulk x.1 := by
  rcases DataW.trod_slice ht h with ⟨hcs, hx⟩ | ⟨a, len, cap, elems, rest, n, hfu, hcs, hx, -, hlc, hcm, hel, hat, -, -⟩
  · obtain rfl : v = .slice none 0 0 := by simpa using hcs
    exact ⟨[], ⟨none, 0, rfl, Nat.le_refl _, Nat.zero_le _, fun i c h => by simp at h⟩, Nat.zero_le _, fun a h => by cases h⟩
  · obtain rfl : v = .slice (some a) len cap := by simpa using hcs
    rw [hce] at hat
    have each : ∀ i, ∃ c : List Value, i < len → (W.cells? base (a.add (i * sz)) sz = some c ∧ ∃ y, DataW.trod enc P W base sp held n e c = some y ∧ Rows.uptoBulk y.1 ≤ Rows.uptoBulk x.1) := fun i => by
      by_cases hi : i < len
      · have h1 := hat i hi
        rw [List.getElem?_eq_getElem (by omega)] at h1
        obtain ⟨c, hc, h2⟩ := Option.bind_eq_some_iff.1 h1
        refine ⟨c, fun _ => ⟨hc, _, h2, ?_⟩⟩
        have hp := part_le (l := elems.map (·.1)) (d := elems[i].1) (List.mem_map_of_mem (List.getElem_mem (by omega)))
        rw [hx]
        simp only [Rows.uptoBulk]
        omega
      · exact ⟨[], fun h => absurd h hi⟩
    obtain ⟨f, hf⟩ := Classical.axiomOfChoice each
    have hln : ((List.range len).map fun i => (f i).toArray).length = len := by simp
    refine ⟨(List.range len).map fun i => (f i).toArray, ⟨some a, cap, by rw [hln], by rw [hln]; exact hlc, hcm, fun i c hc => ?_⟩, ?_, fun c hc => ?_⟩
    · have hi : i < len := by have := (List.getElem?_eq_some_iff.1 hc).1; rwa [hln] at this
      obtain rfl : (f i).toArray = c := by simpa [hi] using hc
      obtain ⟨h1, -⟩ := hf i hi
      obtain ⟨-, h2, h3⟩ := World.cells?_some h1
      obtain ⟨b, off, spot⟩ := a
      have h30 := h3 0 hsz
      rw [List.getElem?_eq_getElem (by omega)] at h30
      have hspot : spot = none := by
        obtain ⟨-, k2, k3⟩ := World.cells?_some (hf 0 (by omega)).1
        have k30 := k3 0 hsz
        rw [List.getElem?_eq_getElem (by omega)] at k30
        simpa [Addr.add] using World.cell?_spot k30
      subst hspot
      refine ⟨b, off, rfl, ?_, by simpa using h2, fun j u hu => ?_⟩
      · exact World.block_lt_of_cell? W ⟨b, off + i * sz + 0, none⟩ (by rw [Go.WideShapes.add_plain, Go.WideShapes.add_plain] at h30; exact h30)
      · have hj : j < sz := by have := (List.getElem?_eq_some_iff.1 hu).1; simpa [h2] using this
        have := h3 j hj
        rw [Go.WideShapes.add_plain, Go.WideShapes.add_plain] at this
        rw [this]
        simpa using hu
    · rw [hln, hx]
      have h4 := length_le (elems.map (·.1))
      rw [List.length_map, hel] at h4
      simp only [Rows.uptoBulk]
      omega
    · obtain ⟨i, hi, rfl⟩ := List.mem_map.1 hc
      obtain ⟨-, y, hy, hyb⟩ := hf i (List.mem_range.1 hi)
      exact ⟨n, y, by omega, by simpa using hy, hyb⟩
end
theorem wf_byte {z : Int} (h : (Lit.int .u8 z).wf = true) : 0 ≤ z ∧ z < 256 := by
  simp [Lit.wf, IntKind.min, IntKind.max, IntKind.signed, IntKind.bits] at h
  omega
theorem wf_int {z : Int} (h : (Lit.int .i64 z).wf = true) : z < 9223372036854775808 := by
  simp [Lit.wf, IntKind.min, IntKind.max, IntKind.signed, IntKind.bits] at h
  omega
def byteOf (c : Array Value) : Nat := match (c.getD 0 undef : Value) with
  | Value.int _ z => z.toNat
  | _ => 0
theorem open_bl {H : Type} {enc : TypeId × Value → H} {W : World} {base fuel : Nat} {sp : Nat → Bool} {held : Bool} {v : Value} {x : DataW H × List MemPlace} (h : DataW.trod enc Try.prog W base sp held fuel 25 [v] = some x) : ∃ l, Bl W v l ∧ l.length ≤ Rows.uptoBulk x.1 := by
  obtain ⟨lb, ⟨oa, cap, rfl, h1, h2, h3⟩, hbk, h4⟩ := open_rows (by decide) Try.underlying25 cells5 h
  have hb : ∀ c ∈ lb, ∃ z : Nat, z < 256 ∧ c = #[.int .u8 (z : Int)] := fun c hc => by
    obtain ⟨m, y, -, hy, -⟩ := h4 c hc
    obtain ⟨z, e1, -, hw⟩ := DataW.trod_int Try.underlying5 hy
    obtain ⟨w0, w1⟩ := wf_byte hw
    refine ⟨z.toNat, by omega, ?_⟩
    rw [Int.toNat_of_nonneg w0]
    exact Array.toList_inj.1 e1
  have hv : ∀ c ∈ lb, c = #[.int .u8 (byteOf c : Int)] ∧ byteOf c < 256 := fun c hc => by
    obtain ⟨z, hz, rfl⟩ := hb c hc
    exact ⟨by simp [byteOf], by simpa [byteOf] using hz⟩
  have hl : (lb.map byteOf).length = lb.length := by simp
  refine ⟨lb.map byteOf, ⟨oa, cap, by rw [hl], by rw [hl]; exact h1, h2, fun y hy => ?_, fun j u hu => ?_⟩, by rw [hl]; exact hbk⟩
  · obtain ⟨c, hc, rfl⟩ := List.mem_map.1 hy
    exact (hv c hc).2
  · have hj : j < lb.length := by have := (List.getElem?_eq_some_iff.1 hu).1; rwa [bs_len, hl] at this
    obtain ⟨g, o, e1, e2, e3, e4⟩ := h3 j lb[j] (List.getElem?_eq_getElem hj)
    refine ⟨g, o, e1, e2, ?_⟩
    have hc := (hv lb[j] (List.getElem_mem hj)).1
    have e5 := e4 0 (.int .u8 (byteOf lb[j] : Int)) (by rw [hc]; simp [byteOf])
    rw [Nat.mul_one, Nat.add_zero] at e5
    rw [e5, ← hu]
    simp [bs, hj]
theorem open_pair {H : Type} {enc : TypeId × Value → H} {W : World} {base fuel : Nat} {sp : Nat → Bool} {held : Bool} {cs : List Value} {x : DataW H × List MemPlace} (h : DataW.trod enc Try.prog W base sp held fuel 33 cs = some x) : ∃ a b : Int, cs = [.int .i64 a, .int .i64 b] ∧ a < 9223372036854775808 ∧ b < 9223372036854775808 := by
  obtain ⟨xs, m, rfl, rfl, hlen, hxl, hel⟩ := DataW.trod_array Try.underlying33 h
  have h0 := hel 0 (by omega)
  have h1 := hel 1 (by omega)
  rw [cells3, List.getElem?_eq_getElem (by omega)] at h0 h1
  rw [cellsK] at hlen
  obtain ⟨a, a1, -, a2⟩ := DataW.trod_int Try.underlying3 h0
  obtain ⟨b, b1, -, b2⟩ := DataW.trod_int Try.underlying3 h1
  match cs, hlen with
  | [c0, c1], _ =>
    simp at a1 b1
    exact ⟨a, b, by rw [a1, b1], wf_int a2, wf_int b2⟩
set_option maxRecDepth 100000 in
theorem open_act {H : Type} {enc : TypeId × Value → H} {W : World} {base fuel : Nat} {sp : Nat → Bool} {held : Bool} {cs : List Value} {x : DataW H × List MemPlace} (h : DataW.trod enc Try.prog W base sp held fuel 35 cs = some x) : ∃ kd fl pv l n k0 k1, cs = (actA kd fl pv n k0 k1).toList ∧ Bl W pv l ∧ l.length ≤ Rows.uptoBulk x.1 ∧ k0 < 9223372036854775808 ∧ k1 < 9223372036854775808 := by
  obtain ⟨xs, n, rfl, hx, hlen, hxl, hfe⟩ := DataW.trod_struct Try.underlying35 h
  rw [cellsA] at hlen
  have h0 := hfe 0 _ rfl
  have h1 := hfe 1 _ rfl
  have h2 := hfe 2 _ rfl
  have h3 := hfe 3 _ rfl
  have h4 := hfe 4 _ rfl
  have hxl5 : xs.length = 5 := hxl
  rw [List.getElem?_eq_getElem (by omega)] at h0 h1 h2 h3 h4
  match cs, hlen with
  | [c0, c1, c2, c3, c4, c5], _ =>
    have h0 : DataW.trod enc Try.prog W base sp held n 3 (([c0, c1, c2, c3, c4, c5].drop 0).take (Try.prog.cellsOf 3)) = some xs[0] := h0
    have h1 : DataW.trod enc Try.prog W base sp held n 3 (([c0, c1, c2, c3, c4, c5].drop 1).take (Try.prog.cellsOf 3)) = some xs[1] := h1
    have h2 : DataW.trod enc Try.prog W base sp held n 25 (([c0, c1, c2, c3, c4, c5].drop 2).take (Try.prog.cellsOf 25)) = some xs[2] := h2
    have h3 : DataW.trod enc Try.prog W base sp held n 3 (([c0, c1, c2, c3, c4, c5].drop 3).take (Try.prog.cellsOf 3)) = some xs[3] := h3
    have h4 : DataW.trod enc Try.prog W base sp held n 33 (([c0, c1, c2, c3, c4, c5].drop 4).take (Try.prog.cellsOf 33)) = some xs[4] := h4
    rw [cells3] at h0 h1 h3
    rw [cellsB] at h2
    rw [cellsK] at h4
    obtain ⟨kd, e0, -, -⟩ := DataW.trod_int Try.underlying3 h0
    obtain ⟨fl, e1, -, -⟩ := DataW.trod_int Try.underlying3 h1
    obtain ⟨l, hl, hlb⟩ := open_bl h2
    obtain ⟨nn, e3, -, -⟩ := DataW.trod_int Try.underlying3 h3
    obtain ⟨k0, k1, e4, e5, e6⟩ := open_pair h4
    have w0 : c0 = _ := (List.cons.inj e0).1
    have w1 : c1 = _ := (List.cons.inj e1).1
    have w3 : c3 = _ := (List.cons.inj e3).1
    have w4 : c4 = _ := (List.cons.inj e4).1
    have w5 : c5 = _ := (List.cons.inj (List.cons.inj e4).2).1
    refine ⟨kd, fl, c2, l, nn, k0, k1, by rw [w0, w1, w3, w4, w5]; rfl, hl, ?_, e5, e6⟩
    have := bulk_part (xs := xs) (i := 2) (y := xs[2]) (List.getElem?_eq_getElem (by omega))
    rw [hx]
    show l.length ≤ Rows.uptoBulk (.agg (xs.map (·.1)) : DataW H)
    omega
theorem open_acts {H : Type} {enc : TypeId × Value → H} {W : World} {base fuel : Nat} {sp : Nat → Bool} {held : Bool} {v : Value} {x : DataW H × List MemPlace} (h : DataW.trod enc Try.prog W base sp held fuel 22 [v] = some x) (hx : Rows.uptoBulk x.1 ≤ 1048576) : ∃ N, Acts W v N := by
  obtain ⟨la, ⟨oa, cap, rfl, h1, h2, h3⟩, -, h4⟩ := open_rows (by decide) Try.underlying22 cellsA h
  refine ⟨la.length, oa, cap, rfl, by omega, fun i hi => ?_⟩
  obtain ⟨g, o, e1, e2, e3, e4⟩ := h3 i la[i] (List.getElem?_eq_getElem hi)
  obtain ⟨m, y, -, hy, hyb⟩ := h4 la[i] (List.getElem_mem hi)
  obtain ⟨kd, fl, pv, l, n, k0, k1, e5, e6, e7, e8, e9⟩ := open_act hy
  exact ⟨g, o, kd, fl, pv, l, n, k0, k1, e1, e2, by rw [← e5]; exact e4, e6, by omega, e8, e9⟩
set_option maxRecDepth 100000 in
theorem open_disk {H : Type} {enc : TypeId × Value → H} {W : World} {base : Nat} {v : Value} {D : DataW H} {p : List MemPlace} (hv : Value.okWide Try.prog W .any base 28 v) (h : DataW.Trod enc Try.prog W 0 (fun _ => true) true 28 v D p) :
    ∃ (u0 u1 : Value) (l0 l1 : List Nat), v = .agg #[u0, u1] ∧ Bl W u0 l0 ∧ Bl W u1 l1 ∧ l0.length ≤ Rows.uptoBulk D ∧ l1.length ≤ Rows.uptoBulk D := by
  obtain ⟨fuel, h⟩ := h
  obtain ⟨cs, rfl, hcs, -⟩ : ∃ cs, v = .agg cs ∧ cs.size = Try.prog.cellsOf 28 ∧ Row.okWide Try.prog W .any base 28 cs := by
    unfold Value.okWide at hv
    rw [Try.underlying28] at hv
    exact hv
  rw [cellsD] at hcs
  obtain ⟨xs, n, rfl, hx, hlen, hxl, hfe⟩ := DataW.trod_struct Try.underlying28 h
  have hxl1 : xs.length = 1 := hxl
  have g0 := hfe 0 _ rfl
  rw [List.getElem?_eq_getElem (by omega)] at g0
  obtain ⟨u0, u1, hc⟩ : ∃ v0 v1, cs = #[v0, v1] := by
    obtain ⟨l⟩ := cs
    match l, hcs with
    | [v0, v1], _ => exact ⟨v0, v1, rfl⟩
  subst hc
  have g0 : DataW.trod enc Try.prog W 0 (fun _ => true) true n 26 (([u0, u1].drop 0).take (Try.prog.cellsOf 26)) = some xs[0] := g0
  rw [cellsF] at g0
  obtain ⟨ys, m, rfl, hy, hleny, hyl, hel⟩ := DataW.trod_array Try.underlying26 g0
  have a0 := hel 0 (by omega)
  have a1 := hel 1 (by omega)
  rw [List.getElem?_eq_getElem (by omega), cellsB] at a0 a1
  simp at a0 a1
  obtain ⟨l0, h0, k0⟩ := open_bl a0
  obtain ⟨l1, h1, k1⟩ := open_bl a1
  have b0 := bulk_part (xs := ys) (i := 0) (y := ys[0]) (List.getElem?_eq_getElem (by omega))
  have b1 := bulk_part (xs := ys) (i := 1) (y := ys[1]) (List.getElem?_eq_getElem (by omega))
  have b2 := bulk_part (xs := xs) (i := 0) (y := xs[0]) (List.getElem?_eq_getElem (by omega))
  have e1 : xs[0].1 = .agg (ys.map (·.1)) := by rw [hy]
  have e2 : D = .agg (xs.map (·.1)) := by
    have := congrArg Prod.fst hx
    exact this
  rw [e1] at b2
  rw [e2]
  exact ⟨u0, u1, l0, l1, rfl, h0, h1, by omega, by omega⟩
set_option maxRecDepth 100000 in
theorem contract (H : Type) (enc : TypeId × Value → H) (W : World) (base : Nat) (args : Array Value) (ds gs : List (DataW H)) (before : List MemPlace)
    (hval0 : ∀ (j : Nat) t v, (Try.f4).params[j]? = some t → args[j]? = some v → Value.okWide Try.prog W .any base t v)
    (hW : DataW.Whole enc Try.prog (Try.f4).params.toList Rows.journalDevicesSpec.vars false W args.toList ds gs before)
    (hk : Rows.uptoSmall H (ds ++ gs) = true) :
    Calls Try.prog 4 args W fun e W' => ∃ v, e = .returned v ∧ Rows.journalDevicesSpec.post enc Try.prog Try.f4 false true false false W args v W' := by
  have hval := hval0
  have hW' := hW
  obtain ⟨p, q, hA0, hV, rfl, hfz, hnd⟩ := hW
  have hA : DataW.TrodAll enc Try.prog W 0 (fun _ => true) true (Try.f4).params.toList args.toList ds p := hA0
  rw [Try.params4] at hA hval
  obtain ⟨v0, v1, d0, d1, p0, p1, rfl, rfl, rfl, h0, h1⟩ := trodAll_two hA
  obtain ⟨rfl, rfl⟩ := trodVars_none hV
  clear hA0 hval0
  simp only [List.append_nil] at hW' hk
  have hbk : Rows.uptoBulkAll [d0, d1] ≤ 1048576 := of_decide_eq_true hk
  have k0 := part_le (l := [d0, d1]) (d := d0) (by simp)
  have k1 := part_le (l := [d0, d1]) (d := d1) (by simp)
  obtain ⟨u0, u1, l0, l1, rfl, b0, b1, c0, c1⟩ := open_disk (hval 0 28 v0 rfl rfl) h0
  obtain ⟨a0, len, cap, rfl⟩ := okWide_slice Try.underlying22 (hval 1 22 v1 rfl rfl)
  obtain ⟨fuel, hf⟩ := id h1
  obtain ⟨N, hN⟩ := open_acts hf (by show Rows.uptoBulk d1 ≤ _; omega)
  have hlt0 : ∀ x ∈ p0, x.block < W.heap.size := fun x hx => by simpa using hW'.lt x (by simp [hx])
  have hlt1 : ∀ x ∈ p1, x.block < W.heap.size := fun x hx => by simpa using hW'.lt x (by simp [hx])
  refine (devices_any W u0 u1 l0 l1 b0 b1 (by omega) (by omega) _ N hN).mono fun e W' ⟨he, hbl⟩ => ?_
  subst he
  have harg0 := Below.trod laidOut (by kernel_rfl) (of_decide_eq_true (by kernel_rfl)) h0 hbl hlt0
  have harg1 := Below.trod laidOut (by kernel_rfl) (of_decide_eq_true (by kernel_rfl)) h1 hbl hlt1
  exact ⟨_, rfl, _, _, _, [], _, [], hW', trodAll_mk1 (shut_bool Try.underlying4 _), trodAll_mk2 harg0 harg1, rfl, hbl.frame _, fun h => by cases h⟩
set_option maxRecDepth 100000 in
theorem lifted (os : Os) (started : os.Started) (H : Type) (enc : TypeId × Value → H) (F : Stop.Interp) :
    ReturnsInHanded {} Try.checked os 4 .any ((Rows.OpenSpec.upto Rows.journalDevicesSpec).pre6 enc Try.prog Try.f4 Rows.journalDevicesUptoRow.domain false) (((Rows.OpenSpec.upto Rows.journalDevicesSpec).at F).post enc Try.prog Try.f4 false true false false) := by
  refine returnsInHanded_of_cond (C := Try.checked) (s := Rows.OpenSpec.upto Rows.journalDevicesSpec) (k := Rows.uptoSmall) rfl own started (by kernel_rfl) Try.func4
    (OpenSpec.witness (enc := enc) (C := Try.checked) (s := Rows.OpenSpec.upto Rows.journalDevicesSpec) (k := Rows.uptoSmall) rfl false ⟨#[], #[.agg #[.slice none 0 0, .slice none 0 0], .slice none 0 0], []⟩ 8 (by kernel_rfl) (by kernel_rfl) (by kernel_rfl)
      (x := ([.agg [.agg [.nil, .nil]], .nil], [], [])) (by kernel_rfl) rfl (by kernel_rfl)) ?_
  intro W base args ds gs before hval hW _ hk _
  exact contract H enc W base args ds gs before hval hW hk
theorem said : Rows.JournalDevicesUptoSaid :=
  OpenClaim.holds_of_cond 4 Try.f4 rfl rfl rfl rfl rfl rfl rfl ⟨rfl, rfl, rfl, rfl, rfl⟩ rfl rfl rfl rfl rfl (by kernel_rfl) Try.func4 (by kernel_rfl)
    (of_decide_eq_true (by kernel_rfl)) (by unfold Func.isWrapper; first | (rw [if_pos (by decide +kernel)]; kernel_rfl) | (rw [if_neg (by decide +kernel)]; exact ⟨rfl, rfl⟩))
    (fun os started H enc _ F => lifted os started H enc F)
end Go.Proofs.Ytdiflmckjpmngaa.Devices
namespace Go.Proofs.Ytdiflmckjpmngaa
theorem journalDevicesUpto_holds : Rows.JournalDevicesUptoSaid := Devices.said
#print axioms journalDevicesUpto_holds
end Go.Proofs.Ytdiflmckjpmngaa
