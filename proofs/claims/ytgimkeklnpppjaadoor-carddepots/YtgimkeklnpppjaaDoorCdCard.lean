/- CardDepots: the row and the card. -/
import Derived.Test.YtgimkeklnpppjaaDoorCdWd
namespace Go.Proofs.YtgimkeklnpppjaaDoor.DCd
open Go.ChangeShapes Go.WideShapes Go.ChangeAt Go.RowKit
open Go.ChangeMaps (open_string shut_string)
set_option maxRecDepth 100000
theorem cells3 : Tryd.prog.cellsOf 3 = 1 := by kernel_rfl
theorem cells4 : Tryd.prog.cellsOf 4 = 1 := by kernel_rfl
theorem cSign : Tryd.prog.cellsOf 23 = 3 := by kernel_rfl
def dsg {H : Type} (st : ByteArray) (m : Bool) (pr : Int) : DataW H := .agg [.lit (.string st.data.toList), .lit (.bool m), .lit (.int .i64 pr)]
theorem open_sign {H : Type} {enc : TypeId × Value → H} {W : World} {r : Reach} {base : Nat} {sp : Nat → Bool} {held : Bool} {b0 : Nat} {v : Value} {d : DataW H} {p : List MemPlace} (hok : Value.okWide Tryd.prog W r b0 23 v) (h : DataW.Trod enc Tryd.prog W base sp held 23 v d p) :
    ∃ st m pr, v = .agg (sgA st m pr) ∧ d = dsg st m pr ∧ p = [] ∧ st.size ≤ maxLen ∧ (Lit.int .i64 pr).wf = true := by
  obtain ⟨cs, rfl, hcs⟩ := okWide_struct Tryd.underlying23 hok
  rw [cSign] at hcs
  obtain ⟨x0, x1, x2, rfl⟩ : ∃ x0 x1 x2, cs = #[x0, x1, x2] := by
    obtain ⟨l⟩ := cs
    match l, hcs with
    | [x0, x1, x2], _ => exact ⟨x0, x1, x2, rfl⟩
  obtain ⟨fuel, hf⟩ := h
  obtain ⟨y0, y1, y2, n, hx, hl, h0, h1, h2⟩ := Go.Deep.trod_struct3 Tryd.underlying23 hf
  simp only [cells9, cells3, cells4, Value.cells] at h0 h1 h2
  obtain ⟨s, s1, s2, s3⟩ := DataW.trod_string Tryd.underlying9 h0
  obtain ⟨b, b1, b2⟩ := DataW.trod_bool Tryd.underlying4 h1
  obtain ⟨m, m1, m2, m3⟩ := DataW.trod_int Tryd.underlying3 h2
  simp at s1 b1 m1
  subst s1 b1 m1
  rw [s2, b2, m2] at hx
  simp only [Prod.mk.injEq] at hx
  exact ⟨s, b, m, rfl, hx.1, hx.2, s3, m3⟩
theorem shut_sign {H : Type} {enc : TypeId × Value → H} {W : World} {base : Nat} {sp : Nat → Bool} {held : Bool} (st : ByteArray) (m : Bool) (pr : Int) (hs : st.size ≤ maxLen) (hp : (Lit.int .i64 pr).wf = true) : DataW.Trod enc Tryd.prog W base sp held 23 (.agg (sgA st m pr)) (dsg st m pr) [] := by
  refine ⟨2, ?_⟩
  have := Go.Deep.trod_struct3_mk (enc := enc) (w := W) (base := base) (spare := sp) (held := held) (n := 1) (cs := [.string st, .bool m, .int .i64 pr]) (y0 := (.lit (.string st.data.toList), [])) (y1 := (.lit (.bool m), [])) (y2 := (.lit (.int .i64 pr), [])) Tryd.underlying23 (by rw [cSign]; rfl)
    (by simp [cells9, DataW.trod, Tryd.underlying9, hs]) (by simp [cells4, DataW.trod, Tryd.underlying4]) (by simp [cells3, DataW.trod, Tryd.underlying3, hp])
  exact this
theorem contract (H : Type) (enc : TypeId × Value → H) (W : World) (base : Nat) (args : Array Value) (ds gs : List (DataW H)) (before : List MemPlace) (hT : ∃ S, Wd S W)
    (hval0 : ∀ (j : Nat) t v, Tryd.f3.params[j]? = some t → args[j]? = some v → Value.okWide Tryd.prog W .any base t v)
    (hW : DataW.Whole enc Tryd.prog Tryd.f3.params.toList Rows.cardDepotsSpec.vars false W args.toList ds gs before) :
    Calls Tryd.prog 3 args W fun e W' => ∃ v, e = .returned v ∧ Rows.cardDepotsSpec.post enc Tryd.prog Tryd.f3 false true false false W args v W' := by
  have hval := hval0
  have hW' := hW
  obtain ⟨S, hS⟩ := hT
  obtain ⟨p, q, hA0, hV, rfl, hfz, hnd⟩ := hW
  have hA : DataW.TrodAll enc Tryd.prog W 0 (fun _ => true) true Tryd.f3.params.toList args.toList ds p := hA0
  rw [Tryd.params3] at hA hval
  obtain ⟨v0, v1, d0, d1, p0, p1, rfl, rfl, rfl, h0, h1⟩ := trodAll_two hA
  obtain ⟨rfl, rfl⟩ := trodVars_none hV
  obtain ⟨st, m, pr, rfl, rfl, rfl, hst, hpr⟩ := open_sign (hval 0 23 v0 rfl rfl) h0
  obtain ⟨s, rfl, rfl, rfl, hs⟩ := open_string Tryd.underlying9 (hval 1 9 v1 rfl rfl) h1
  clear hA0 hval0
  simp only [List.append_nil] at hW'
  refine (depots_any st m pr s S W hS).mono fun e W' ⟨he, hbl⟩ => ?_
  subst he
  exact ⟨_, rfl, _, _, _, [], _, [], hW', trodAll_mk1 (shut_bool Tryd.underlying4 _), trodAll_mk2 (shut_sign st m pr hst hpr) (shut_string Tryd.underlying9 hs), rfl, hbl.frame _, fun h => by cases h⟩
/-- A block's cells, laid anew. -/
def laidC (l : List Value) : Obj → Obj
  | .cells _ t frozen => .cells l.toArray t frozen
  | o => o
def db32 : List Int := [0, 1, 28, 2, 29, 14, 24, 3, 30, 22, 20, 15, 25, 17, 4, 8, 31, 27, 13, 23, 21, 19, 16, 7, 26, 12, 18, 6, 11, 5, 10, 9]
def db64 : List Int := [0, 1, 56, 2, 57, 49, 28, 3, 61, 58, 42, 50, 38, 29, 17, 4, 62, 47, 59, 36, 45, 43, 51, 22, 53, 39, 33, 30, 24, 18, 12, 5, 63, 55, 48, 27, 60, 41, 37, 16, 46, 35, 44, 21, 52, 32, 23, 11, 54, 26, 40, 15, 34, 20, 31, 10, 25, 14, 19, 9, 13, 8, 7, 6]
def p10 : List Int := [1, 10, 100, 1000, 10000, 100000, 1000000, 10000000, 100000000, 1000000000, 10000000000, 100000000000, 1000000000000, 10000000000000, 100000000000000, 1000000000000000, 10000000000000000, 100000000000000000, 1000000000000000000, 10000000000000000000]
def headsC : List Value := [.string ⟨#[]⟩, .string ⟨#[76, 97, 98, 101, 108, 58, 32]⟩, .string ⟨#[85, 114, 108, 58, 32]⟩, .string ⟨#[80, 114, 101, 115, 115, 58, 32]⟩, .string ⟨#[70, 105, 108, 101, 83, 117, 109, 58, 32]⟩, .string ⟨#[70, 105, 108, 101, 83, 105, 122, 101, 58, 32]⟩, .string ⟨#[65, 114, 107, 83, 117, 109, 58, 32]⟩, .string ⟨#[65, 114, 107, 83, 105, 122, 101, 58, 32]⟩, .string ⟨#[82, 101, 102, 115, 58]⟩, .string ⟨#[77, 97, 107, 101, 114, 58, 32]⟩, .string ⟨#[67, 97, 58, 32]⟩, .string ⟨#[77, 97, 114, 107, 58, 32]⟩, .string ⟨#[83, 116, 111, 114, 101, 58, 32]⟩, .string ⟨#[77, 97, 115, 115, 58, 32]⟩, .string ⟨#[80, 114, 105, 111, 114, 105, 116, 121, 58, 32]⟩]
def erB : Array Obj := #[.cells #[.string ⟨#[118, 97, 108, 117, 101, 32, 111, 117, 116, 32, 111, 102, 32, 114, 97, 110, 103, 101]⟩] 137, .cells #[.string ⟨#[105, 110, 118, 97, 108, 105, 100, 32, 115, 121, 110, 116, 97, 120]⟩] 137, .cells #[.string ⟨#[105, 116, 32, 104, 97, 115, 32, 109, 111, 114, 101, 32, 98, 121, 116, 101, 115, 32, 116, 104, 97, 110, 32, 97, 32, 99, 97, 114, 100, 32, 109, 97, 121, 32, 104, 97, 118, 101]⟩] 137, .cells #[.string ⟨#[105, 116, 32, 101, 110, 100, 115, 32, 116, 111, 111, 32, 101, 97, 114, 108, 121]⟩] 137, .cells #[.string ⟨#[115, 111, 109, 101, 116, 104, 105, 110, 103, 32, 115, 116, 97, 110, 100, 115, 32, 98, 101, 104, 105, 110, 100, 32, 105, 116, 115, 32, 101, 110, 100]⟩] 137, .cells #[.string ⟨#[110, 111, 32, 108, 105, 110, 101, 32, 116, 104, 97, 116, 32, 109, 97, 121, 32, 99, 111, 109, 101, 32, 104, 101, 114, 101, 32, 98, 101, 103, 105, 110, 115, 32, 115, 111]⟩] 137, .cells #[.string ⟨#[97, 32, 102, 105, 101, 108, 100, 32, 109, 97, 121, 32, 110, 111, 116, 32, 98, 101, 32, 115, 111]⟩] 137, .cells #[.string ⟨#[97, 32, 109, 97, 114, 107, 32, 109, 97, 121, 32, 110, 111, 116, 32, 98, 101, 32, 115, 111]⟩] 137]
/-- A world for the witness. -/
noncomputable def low : Nat := (World.holding Tryd.prog default ⟨#[], #[], []⟩).heap.size
noncomputable def laidWorld (os : Go.Os) : World :=
  { World.holding Tryd.prog os ⟨erB, #[], []⟩ with heap := ((((((((((((((World.holding Tryd.prog os ⟨erB, #[], []⟩).heap).modify 12 (laidC (db32.map (Value.int .u8)))).modify 13 (laidC (db64.map (Value.int .u8)))).modify 8 (laidC (p10.map (Value.int .u64)))).modify 5 (laidC (headsC))).modify 6 (laidC ([.iface 82 (.agg #[.pointer (some ⟨14, 33, none⟩)])]))).modify 11 (laidC ([.iface 135 (.pointer (some ⟨low + 0, 0, none⟩))]))).modify 10 (laidC ([.iface 135 (.pointer (some ⟨low + 1, 0, none⟩))]))).modify 0 (laidC ([.iface 135 (.pointer (some ⟨low + 2, 0, none⟩))]))).modify 2 (laidC ([.iface 135 (.pointer (some ⟨low + 3, 0, none⟩))]))).modify 1 (laidC ([.iface 135 (.pointer (some ⟨low + 4, 0, none⟩))]))).modify 3 (laidC ([.iface 135 (.pointer (some ⟨low + 5, 0, none⟩))]))).modify 7 (laidC ([.iface 135 (.pointer (some ⟨low + 6, 0, none⟩))]))).modify 4 (laidC ([.iface 135 (.pointer (some ⟨low + 7, 0, none⟩))])) }
def wit : Array Value := #[.agg (sgA ⟨#[]⟩ false 0), .string ⟨#[]⟩]
theorem laid_met (os : Go.Os) : laidMetH Tryd.prog Rows.cardDepotsRow.laid ((laidWorld os).forCall (fun _ _ => 0) ⟨#[], wit, []⟩).memory :=
  laidMetH_of_parts (laidMet_of_run' 8 (by kernel_rfl) (by kernel_rfl)) (by kernel_rfl)
theorem reads (os : Go.Os) {H : Type} (enc : TypeId × Value → H) : ∃ places, DataW.whole enc Tryd.prog ((laidWorld os).forCall (fun _ _ => 0) ⟨#[], wit, []⟩).memory Tryd.f3.params.toList Rows.cardDepotsSpec.vars false wit.toList 8 = some ([dsg ⟨#[]⟩ false 0, .lit (.string [])], [], places) :=
  ⟨[], by kernel_rfl⟩
theorem lifted (os : Go.Os) (started : os.Started) (H : Type) (enc : TypeId × Value → H) (F : Stop.Interp) :
    ReturnsInHanded {} Tryd.checked os 3 .any ((OpenSpec.ofChange Rows.cardDepotsSpec).preRow enc Tryd.prog Tryd.f3 Rows.cardDepotsRow.domain false Rows.cardDepotsRow.laid) (((OpenSpec.ofChange Rows.cardDepotsSpec).at F).post enc Tryd.prog Tryd.f3 false true false false) := by
  obtain ⟨places, hx⟩ := reads os enc
  refine returnsInHanded_of_row (C := Tryd.checked) (s := OpenSpec.ofChange Rows.cardDepotsSpec) own started (by kernel_rfl) Tryd.func3
    (witness_row_at (enc := enc) (C := Tryd.checked) false (laidWorld os) wit rfl (by kernel_rfl) (by kernel_rfl) (by kernel_rfl)
      (OpenSpec.preRow_of_cond 8 hx (by kernel_rfl) (fun k hk => by cases hk) (by kernel_rfl) (laid_met os))) ?_
  intro W base args ds gs before hval hW _ _ _ hL _ _
  exact contract H enc W base args ds gs before (wd_of_laid hL) hval hW
theorem said : Rows.CardDepotsSaid :=
  OpenClaim.holds_of_cond 3 Tryd.f3 rfl rfl rfl rfl rfl rfl rfl ⟨rfl, rfl, rfl, rfl, rfl⟩ rfl rfl rfl rfl rfl (by kernel_rfl) Tryd.func3 (by kernel_rfl)
    (of_decide_eq_true (by kernel_rfl)) (by unfold Func.isWrapper; first | (rw [if_pos (by decide +kernel)]; kernel_rfl) | (rw [if_neg (by decide +kernel)]; exact ⟨rfl, rfl⟩))
    (fun os started H enc _ F => by rw [OpenClaim.pre_eq_preRow]; exact lifted os started H enc F)
theorem plain (f : FuncId) (fn : Func) (hf : Tryd.pinned.checked.prog.funcNamed "graft/graftlaw10.CardDepots" = some f) (hfn : Tryd.pinned.checked.prog.funcs[f]? = some fn) :
    true = Tryd.pinned.checked.prog.looks [] ∧ ∀ (j : Nat) t, fn.params[j]? = some t → Tryd.pinned.checked.prog.wantsStandIn t = false := by
  obtain rfl : f = 3 := Option.some.inj ((show Tryd.prog.funcNamed "graft/graftlaw10.CardDepots" = some 3 by kernel_rfl).symm.trans hf) |>.symm
  obtain rfl : fn = Tryd.f3 := (Option.some.inj (Tryd.func3.symm.trans hfn)).symm
  refine ⟨by kernel_rfl, fun j t ht => ?_⟩
  rw [Tryd.params3] at ht
  match j, ht with
  | 0, h =>
    obtain rfl := (Option.some.inj h).symm
    exact (by kernel_rfl : Tryd.prog.wantsStandIn 23 = false)
  | 1, h =>
    obtain rfl := (Option.some.inj h).symm
    exact (by kernel_rfl : Tryd.prog.wantsStandIn 9 = false)
  | j + 2, h => simp at h
end Go.Proofs.YtgimkeklnpppjaaDoor.DCd
namespace Go.Proofs.YtgimkeklnpppjaaDoor
theorem cardDepots_card : Rows.CardDepotsCardSaid :=
  Claim7.holds_tied_plain_at .later [] _ _ _ _ DCd.said (fun _ h => by cases h) (by kernel_rfl) (fun _ h => by cases h) cardDepots_row_tie rfl ⟨rfl, rfl⟩ (by kernel_rfl) rfl DCd.plain (by kernel_rfl)
#print axioms cardDepots_card
end Go.Proofs.YtgimkeklnpppjaaDoor
