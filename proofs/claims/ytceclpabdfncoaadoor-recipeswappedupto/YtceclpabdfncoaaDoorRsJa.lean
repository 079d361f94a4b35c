/- Several texts in one: RsA, RsE, RsC, RsF. -/
import Derived.Test.YtceclpabdfncoaaDoorRcJa
import Derived.Test.YtceclpabdfncoaaDoorRcJd
import Derived.WalkSpells
import Derived.WalkLawsBesides
import Derived.Laws.Externs
import Derived.Lib.Bytealg
import Derived.Shelf.SlSortCmp.WholeK
import Derived.Shelf.Lay
import Derived.Ground.SlsfProg
import Derived.Ground.NamesProg
import Derived.Laws.IdiomStrings
import Derived.Lib.AppendStr
/- Texts: beginnings, pieces, comparison. -/
namespace Go.Proofs.YtceclpabdfncoaaDoor.Re
open Go.RowKit
theorem bl_ext (s : S) (a b : Nat) : bl (s.extract a b) = ((bl s).take b).drop a := by
  unfold bl
  rw [ByteArray.data_extract, Array.toList_extract, List.extract_eq_take_drop, List.drop_take]
theorem bl_tl (s : S) : ByteArray.toList s = bl s := ByteArray.toList_eq s
theorem pre_iff {a b : Bts} : a <+: b ↔ b.take a.length = a := by
  rw [List.prefix_iff_eq_take]; exact eq_comm
theorem isp_eq (a b : Bts) : a.isPrefixOf b = (b.take a.length == a) := by
  rw [Bool.eq_iff_iff, List.isPrefixOf_iff_prefix, pre_iff, beq_iff_eq]
theorem isp_short {a b : Bts} (h : b.length < a.length) : a.isPrefixOf b = false := by
  rw [Bool.eq_false_iff]
  intro q
  have := (List.isPrefixOf_iff_prefix.1 q).length_le
  omega
set_option maxHeartbeats 1000000 in
set_option maxRecDepth 100000 in
theorem haspL_any (s p : S) (w : World) : Calls Tryd.prog 37 #[.string s, .string p] w fun e w' => e = .returned (.bool ((bl p).isPrefixOf (bl s))) ∧ w' = w := by
  by_cases h : p.size ≤ s.size
  · have he : (bl p).isPrefixOf (bl s) = (ByteArray.toList (s.extract 0 p.size) == ByteArray.toList p) := by
      rw [bl_tl, bl_tl, bl_ext, isp_eq, bl_len]; rfl
    rw [he]
    have h1 : (p.size : Int) ≤ (s.size : Int) := by omega
    have h2 : (0 : Int) ≤ (p.size : Int) := by omega
    clear he
    go_enter Tryd.func37, Tryd.ntmps37
    go_wp2
    go_ret
    exact ⟨by simp, rfl⟩
  · rw [isp_short (by rw [bl_len, bl_len]; omega)]
    have h1 : ¬ ((p.size : Int) ≤ (s.size : Int)) := by omega
    go_enter Tryd.func37, Tryd.ntmps37
    go_wp2
    go_ret
    exact ⟨rfl, rfl⟩
set_option maxRecDepth 100000 in
theorem hasp_any (s p : S) (w : World) : Calls Tryd.prog 23 #[.string s, .string p] w fun e w' => e = .returned (.bool ((bl p).isPrefixOf (bl s))) ∧ w' = w := by
  have C : Hid _ := haspL_any s p w
  revert C
  generalize (bl p).isPrefixOf (bl s) = b
  intro C
  go_enter Tryd.func23, Tryd.ntmps23
  go_wp2_with fail
  refine Calls.mono C.out ?_
  rintro e w' ⟨rfl, rfl⟩
  go_wp2
  go_ret
  exact ⟨rfl, rfl⟩
/-- Compare tells the order of texts. -/
theorem cmpB_lt : ∀ a b : List UInt8, Lib.compareBytes a b < 0 ↔ tn a < tn b
  | [], [] => by simp [Lib.compareBytes, tn]
  | [], _ :: _ => by simp [Lib.compareBytes, tn]
  | _ :: _, [] => by simp [Lib.compareBytes, tn]
  | x :: a, y :: b => by
    unfold Lib.compareBytes
    rw [tn_cons, tn_cons, List.cons_lt_cons_iff]
    have ih := cmpB_lt a b
    by_cases h1 : x < y
    · rw [if_pos h1]
      exact ⟨fun _ => .inl (UInt8.lt_iff_toNat_lt.1 h1), fun _ => by decide⟩
    · rw [if_neg h1]
      have h1' : ¬ x.toNat < y.toNat := fun h => h1 (UInt8.lt_iff_toNat_lt.2 h)
      by_cases h2 : y < x
      · rw [if_pos h2]
        have h2' := UInt8.lt_iff_toNat_lt.1 h2
        refine ⟨fun h => absurd h (by decide), fun h => ?_⟩
        rcases h with h | ⟨h, _⟩ <;> omega
      · rw [if_neg h2]
        have h2' : ¬ y.toNat < x.toNat := fun h => h2 (UInt8.lt_iff_toNat_lt.2 h)
        rw [ih]
        refine ⟨fun h => .inr ⟨by omega, h⟩, fun h => ?_⟩
        rcases h with h | ⟨_, h⟩
        · exact absurd h h1'
        · exact h
set_option maxHeartbeats 1000000 in
set_option maxRecDepth 100000 in
theorem cmpL_any (s t : S) (w : World) :
    Calls Tryd.prog 36 #[.string s, .string t] w fun e w' => e = .returned (.int .i64 (Lib.compareBytes s.data.toList t.data.toList)) ∧ w' = w := by
  go_enter Tryd.func36, Tryd.ntmps36
  go_wp2
  rw [run_callFunc_extern Tryd.func53 (by kernel_rfl) (by kernel_rfl) (by kernel_rfl) (e := Extern.BytealgCompare.compare) (by kernel_rfl), Lib.run_compareString]
  simp only [Result.andThen]
  rw [Oper.upon_value]
  go_wp2
  go_ret
  exact ⟨rfl, rfl⟩
theorem cmp_any (s t : S) (w : World) :
    Calls Tryd.prog 22 #[.string s, .string t] w fun e w' => e = .returned (.int .i64 (Lib.compareBytes s.data.toList t.data.toList)) ∧ w' = w := by
  go_enter Tryd.func22, Tryd.ntmps22
  go_wp2_with (go_at_call 36; refine (cmpL_any _ _ _).mono ?_; rintro e w' ⟨rfl, rfl⟩)
  go_ret
  exact ⟨rfl, rfl⟩
theorem inf_iff {a s : Bts} : a <:+: s ↔ ∃ k, k + a.length ≤ s.length ∧ a <+: s.drop k := by
  constructor
  · rintro ⟨u, t, rfl⟩
    exact ⟨u.length, by simp, by rw [List.append_assoc, List.drop_left]; exact List.prefix_append _ _⟩
  · rintro ⟨k, -, h⟩
    exact h.isInfix.trans (List.drop_suffix _ _).isInfix
/-- A call that tells whether something holds, and changes nothing. -/
def Tells (p : Prop) (w : World) (e : Ending) (w' : World) : Prop := ∃ b : Bool, e = .returned (.bool b) ∧ (b = true ↔ p) ∧ w' = w
end Go.Proofs.YtceclpabdfncoaaDoor.Re

/- The changes sorted by their texts. -/
namespace Go.Proofs.YtceclpabdfncoaaDoor.Re
open Go.RowKit Go.Shelf Go.Sort
shelf_lay_g SlLaysF0.n6 Slsf 6 at Tryd 20 as Tryd.sortL
/-- What only makes new memory and draws. -/
theorem grown_of {w w' : World} (h : Below w.heap.size w w') (hd : w.drawn ≤ w'.drawn) : ∃ q os, w' = grow (w.drewN q) os := by
  refine ⟨w'.drawn - w.drawn, w'.heap.extract w.heap.size w'.heap.size, ?_⟩
  have hh : w'.heap = w.heap ++ w'.heap.extract w.heap.size w'.heap.size := by
    apply Array.ext_getElem?
    intro i
    by_cases hi : i < w.heap.size
    · rw [Array.getElem?_append_left hi]; exact h.block i hi
    · rw [Array.getElem?_append_right (by omega), Array.getElem?_extract]
      have hs := h.size
      by_cases h2 : i < w'.heap.size
      · rw [if_pos (by simp; omega)]; congr 1; omega
      · rw [if_neg (by simp; omega), Array.getElem?_eq_none (by omega)]
  have h1 := h.os
  have h2 := h.tape
  have h3 := h.output
  unfold grow World.drewN
  cases w
  cases w'
  simp only at hh h1 h2 h3 hd
  simp only [World.mk.injEq]
  subst h1 h2 h3
  exact ⟨hh, rfl, by omega, rfl, rfl⟩
def enc (x : Pai) : List Value := (eR x).toList
theorem enc_len (x : Pai) : (enc x).length = 2 := rfl
theorem enc_one (x : Pai) : ∀ v ∈ enc x, v.oneCell' = true := by
  intro v hv
  simp only [enc, eR, List.mem_cons, List.not_mem_nil, or_false] at hv
  rcases hv with rfl | rfl <;> rfl
instance : Inhabited Pai := ⟨(⟨#[]⟩, ⟨#[]⟩)⟩
def cf (x y : Pai) : Int := Lib.compareBytes (bl x.1) (bl y.1)
theorem cf_lt (x y : Pai) : cf x y < 0 ↔ tn (bl x.1) < tn (bl y.1) := cmpB_lt _ _
theorem swo : SWO (ltOf cf) where
  irrefl x := by
    unfold ltOf
    rw [decide_eq_false]
    rw [cf_lt]; exact List.lt_irrefl _
  trans x y z h1 h2 := by
    unfold ltOf at h1 h2 ⊢
    rw [decide_eq_true_iff] at h1 h2 ⊢
    rw [cf_lt] at h1 h2 ⊢
    exact List.lt_trans h1 h2
  ntrans x y z h1 h2 := by
    unfold ltOf at h1 h2 ⊢
    rw [decide_eq_false_iff_not] at h1 h2 ⊢
    rw [cf_lt] at h1 h2 ⊢
    rw [List.not_lt] at h1 h2 ⊢
    exact List.le_trans h2 h1
set_option maxRecDepth 100000 in
theorem clos_any (x y : Pai) (W : World) : Calls Tryd.prog 21 #[.agg (enc x).toArray, .agg (enc y).toArray] W fun e w' => e = .returned (.int .i64 (cf x y)) ∧ Below W.heap.size W w' ∧ W.drawn ≤ w'.drawn := by
  obtain ⟨x1, x2⟩ := x
  obtain ⟨y1, y2⟩ := y
  have C : Hid (∀ w, Calls Tryd.prog 22 #[.string x1, .string y1] w fun e w' => e = .returned (.int .i64 (cf (x1, x2) (y1, y2))) ∧ w' = w) := fun w => cmp_any x1 y1 w
  revert C
  generalize cf (x1, x2) (y1, y2) = r
  intro C
  show Calls Tryd.prog 21 #[.agg #[.string x1, .string x2], .agg #[.string y1, .string y2]] W _
  go_enter Tryd.func21, Tryd.ntmps21
  go_wp2_with fail
  refine Calls.mono (C.out _) ?_
  rintro e w' ⟨rfl, rfl⟩
  go_wp2_with fail
  go_ret
  exact ⟨rfl, ((Below.refl _ W).alloc (Nat.le_refl _) _).alloc (by simp) _, Nat.le_refl _⟩
theorem cmp_lays (blk off size : Nat) (w : World) : CmpLays Tryd.prog 21 #[] enc 2 cf blk off size w := fun _ _ _ _ x y => (clos_any x y _).mono fun _ _ ⟨a, b, c⟩ => ⟨a, grown_of b c⟩
theorem entersC : ∀ args w, (callFunc 21 args).run Tryd.prog w = .ok (.enter 21 args) w := enters_of Tryd.func21 (by kernel_rfl) rfl
theorem sort_bel (w : World) (g off n B : Nat) (d : Array Pai) (os : Array Obj) (hB : B ≤ g) (hw : B ≤ w.heap.size) : Below B w (sortWorldK enc 2 w g off n d os) := by
  unfold sortWorldK putRowK putRow mapBlock grow
  refine ⟨rfl, rfl, rfl, by simp [Sort.ahead], fun j hj => ?_⟩
  show ((Sort.ahead w n).heap.modify g _ ++ os)[j]? = _
  rw [Array.getElem?_append_left (by simp [Sort.ahead]; omega), Array.getElem?_modify, if_neg (by omega)]
  rfl
theorem sort_blk (w : World) (g off n : Nat) (d : Array Pai) (os : Array Obj) {j : Nat} {o : Obj} (hj : w.heap[j]? = some o) (hn : j ≠ g) : (sortWorldK enc 2 w g off n d os).heap[j]? = some o := by
  have hlt := (Array.getElem?_eq_some_iff.1 hj).1
  unfold sortWorldK putRowK putRow mapBlock grow
  show ((Sort.ahead w n).heap.modify g _ ++ os)[j]? = _
  rw [Array.getElem?_append_left (by simpa [Sort.ahead] using hlt), Array.getElem?_modify, if_neg (by omega)]
  exact hj
/-- What the sort leaves. -/
structure Stp (w : World) (g : Nat) (D : List Pai) (w' : World) (D' : List Pai) : Prop where
  perm : D'.Perm D
  sd : Sd D'
  ls : Ls w' (.slice (some ⟨g, 0, none⟩) D'.length D'.length) 2 (D'.map eR)
  bel : ∀ B, B ≤ g → B ≤ w.heap.size → Below B w w'
  blk : ∀ j o, w.heap[j]? = some o → j ≠ g → w'.heap[j]? = some o
theorem sort_any (D : List Pai) (hn : D.length ≤ 10000000) (g base : Nat) (w : World) (ho : Ol base 66 2 w (.slice (some ⟨g, 0, none⟩) D.length D.length) (D.map eR)) :
    Calls Tryd.prog 20 #[.slice (some ⟨g, 0, none⟩) D.length D.length, .func (.func 21) #[] #[]] w fun e w' => e = .returned (.tuple #[]) ∧ ∃ D', Stp w g D w' D' := by
  have hg : g < w.heap.size := (ho.tag (g := g) rfl).2.1
  have hgD : ∀ i (hi : i < D.length), D.toArray[i]! = D[i] := fun i hi => by rw [getElem!_pos D.toArray i (by simpa using hi)]; simp
  have hH : HoldsK enc 2 w g 0 D.toArray := by
    intro k hk
    have hk : k < D.toArray.size * 2 := by simpa using hk
    have hk2 : k < D.length * 2 := by simpa using hk
    have hi : k / 2 < D.length := by omega
    refine ⟨?_, ho.fro _⟩
    rw [get_flatK _ _ _ _ hk, hgD _ hi, Nat.zero_add]
    have hm : k % 2 = 0 ∨ k % 2 = 1 := by omega
    have he : (eR D[k / 2])[k % 2]? = some ((enc D[k / 2])[k % 2]!) := by rcases hm with q | q <;> rw [q] <;> rfl
    have := ho.cel (k / 2) (k % 2) (eR D[k / 2]) _ (by rw [List.getElem?_map, List.getElem?_eq_getElem hi]; rfl) he
    rw [show k / 2 * 2 + k % 2 = k by omega] at this
    exact this
  have h := AnyQ.slices_SortFunc Tryd.sortL 2 Tryd.isAgg66 Tryd.sizeOf66 enc enc_len enc_one cf swo 21 #[] g 0 D.length D.toArray w entersC (cmp_lays g 0 D.toArray.size w) hH hg (by simp; omega)
  have h' : Calls Tryd.prog 20 #[.slice (some ⟨g, 0, none⟩) D.toArray.size D.length, .func (.func 21) #[] #[]] w fun e w' => e = .returned (.tuple #[]) ∧ ∃ d' n os, PermIn 0 D.toArray.size D.toArray d' ∧ SortedIn (ltOf cf) 0 D.toArray.size d' ∧ w' = sortWorldK enc 2 w g 0 n d' os := h
  rw [List.size_toArray] at h'
  refine h'.mono ?_
  rintro e w' ⟨he, d', n, os, hp, hsrt, rfl⟩
  have hs' : d'.size = D.length := by have := hp.1; simpa using this
  have hq : ∀ j (hj : j < d'.toList.length), d'[j]! = d'.toList[j] := fun j hj => by
    rw [getElem!_pos d' j (by simpa using hj)]; simp
  have hperm : d'.toList.Perm D := by
    have h3 := hp.2.2
    have e1 : d'.extract 0 D.length = d' := by rw [← hs']; simp
    have e2 : D.toArray.extract 0 D.length = D.toArray := by simp
    rw [e1, e2] at h3
    simpa using h3
  have hH2 := holdsK_sortWorldK_c enc 2 w g 0 D.toArray d' n os hH hg (by simpa using hs')
  refine ⟨he, d'.toList, hperm, ?_, ?_, fun B h1 h2 => sort_bel w g 0 n B d' os h1 h2, fun j o h1 h2 => sort_blk w g 0 n d' os h1 h2⟩
  · intro i j x y hij hi hj
    obtain ⟨hi1, rfl⟩ := List.getElem?_eq_some_iff.1 hi
    obtain ⟨hj1, rfl⟩ := List.getElem?_eq_some_iff.1 hj
    have hj2 : j < D.length := by rw [← hs']; simpa using hj1
    have := hsrt i j (Nat.zero_le _) hij hj2
    unfold ltOf at this
    rw [decide_eq_false_iff_not, cf_lt, hq i hi1, hq j hj1] at this
    exact this
  · refine ⟨some ⟨g, 0, none⟩, _, by rw [List.length_map], (fun q => by cases q), by simp, by simp [hs']; unfold maxLen; omega, rs_e _, fun i c hc => ?_⟩
    rw [List.getElem?_map] at hc
    cases hx : d'.toList[i]? with
    | none => rw [hx] at hc; cases hc
    | some x =>
      rw [hx] at hc
      obtain rfl : eR x = c := by simpa using hc
      obtain ⟨hi1, hx1⟩ := List.getElem?_eq_some_iff.1 hx
      refine ⟨g, 0, rfl, Nat.lt_of_lt_of_le hg (sort_bel w g 0 n 0 d' os (Nat.zero_le _) (Nat.zero_le _)).size, fun j u hu => ?_⟩
      have hj : j < 2 := by have := (List.getElem?_eq_some_iff.1 hu).1; simpa [eR] using this
      have := (hH2.cell (i := i) (c := j) (by simpa using hi1) hj).1
      rw [this, hq i hi1, hx1]
      have e2 := List.getElem?_eq_some_iff.1 hu
      show some ((enc x)[j]!) = some u
      rw [getElem!_pos _ j e2.1]
      exact congrArg some e2.2
end Go.Proofs.YtceclpabdfncoaaDoor.Re

/- The document's swapped. -/
namespace Go.Proofs.YtceclpabdfncoaaDoor.Re
open Go.RowKit
def bR (b : UInt8) : Array Value := #[.int .u8 (b.toNat : Int)]
theorem rs_b (l : Bts) : Rs 1 (l.map bR) := fun c hc => by
  obtain ⟨x, _, rfl⟩ := List.mem_map.1 hc
  exact ⟨rfl, by simp [bR, Value.oneCell']⟩
theorem flat_b (l : Bts) : flat (l.map bR) = l.map (fun b => Value.int .u8 (b.toNat : Int)) := by
  induction l with
  | nil => rfl
  | cons b l ih =>
    show (bR b).toList ++ flat (l.map bR) = _
    rw [ih]; rfl
theorem info5b : (Tryd.prog.info? 5).map (fun i => (i.zero, i.size, i.bytes)) = some (some (.int .u8 0), 1, 1) := by kernel_rfl
/-- Bytes of one's own. -/
def Ob (base : Nat) (W : World) (v : Value) (O : Bts) : Prop := Ol base 5 1 W v (O.map bR)
theorem Ob.form {base : Nat} {W : World} {v : Value} {O : Bts} (h : Ob base W v O) : ∃ a c, v = .slice a O.length c := by
  obtain ⟨a, c, q, -⟩ := Ol.form h
  rw [List.length_map] at q
  exact ⟨a, c, q⟩
def apB (ty : Nat) (vs : Array Value) : Sem Value := Builtin.append_ #[23, 23] ty vs
theorem toApB (ty : Nat) (vs : Array Value) : Builtin.append_ #[23, 23] ty vs = apB ty vs := rfl
def apZ (ty : Nat) (vs : Array Value) : Sem Value := Builtin.append_ #[23, 9] ty vs
theorem toApZ (ty : Nat) (vs : Array Value) : Builtin.append_ #[23, 9] ty vs = apZ ty vs := rfl
def cvB (v : Value) : Sem Value := convert 23 9 v
theorem toCvB (v : Value) : convert 23 9 v = cvB v := rfl
theorem Ob.bel {base B : Nat} {W w w' : World} {v : Value} {O : Bts} (h : Ob base w v O) (hg : w.grownBy w' v.ownBlock) (hb : Below B W w) (hB : B ≤ base) (hW : B ≤ W.heap.size) : Below B W w' :=
  ⟨hg.os.trans hb.os, hg.tape.trans hb.tape, hg.output.trans hb.output, Nat.le_trans hb.size hg.size, fun j hj => (hg.block j (Nat.lt_of_lt_of_le hj (Nat.le_trans hW hb.size)) (fun q => by have := (Ol.tag h q.symm).1; omega)).trans (hb.block j hj)⟩
/-- One byte more. -/
theorem run_apB1 (w : World) (base : Nat) (v : Value) (O : Bts) (b : UInt8) (ho : Ob base w v O) (hl : O.length + 1 ≤ 8796093022208) (hbase : base ≤ w.heap.size) :
    ∃ a c w', (apB 23 #[v, .slice (some ⟨w.heap.size, 0, none⟩) 1 1]).run Tryd.prog (w.alloc (.cells #[.int .u8 (b.toNat : Int)] 5)) = .ok (.slice a (O.length + 1) c) w' ∧ Ob base w' (.slice a (O.length + 1) c) (O ++ [b]) ∧ (w.alloc (.cells #[.int .u8 (b.toNat : Int)] 5)).grownBy w' v.ownBlock := by
  obtain ⟨i0, hi0, hz0, hz1, hz2⟩ := info_parts info5b
  have hA : Ob base (w.alloc (.cells #[.int .u8 (b.toNat : Int)] 5)) v O := ⟨ho.1.alloc _, ho.2⟩
  have hcell : ∀ (k : Nat) x, ([.int .u8 (b.toNat : Int)] : List Value)[k]? = some x → (w.alloc (.cells #[.int .u8 (b.toNat : Int)] 5)).cell? ((⟨w.heap.size, 0, none⟩ : Addr).add k) = some x := fun k x hx => by
    have hk : k = 0 := by have := (List.getElem?_eq_some_iff.1 hx).1; simpa using this
    subst hk
    obtain rfl : Value.int .u8 (b.toNat : Int) = x := by simpa using hx
    rw [Addr.add_mid, cell_of_row _ _ _ _ _ _ (heap_alloc_new _ _)]
    rfl
  obtain ⟨v', w', hr, hw, hg, -, -⟩ := run_append_own_at (P := Tryd.prog) (w.alloc (.cells #[.int .u8 (b.toNat : Int)] 5)) base 23 23 5 i0 (.int .u8 0) 1 1 Tryd.underlying23 hi0 hz0 hz1 hz2 rfl (by omega) v (O.map bR).length _ hA.1 ⟨w.heap.size, 0, none⟩ 1 1 [.int .u8 (b.toNat : Int)] rfl hcell (fun u hu => by simp at hu; subst hu; rfl) (by rw [List.length_map]; unfold maxLen; omega) (by rw [List.length_map]; omega) (by simp; omega)
  have hO : Ob base w' v' (O ++ [b]) := ⟨by rw [List.map_append, flat_app, List.length_append]; exact hw, rs_b _⟩
  obtain ⟨a, c, rfl⟩ := hO.form
  rw [List.length_append] at hr hO
  exact ⟨a, c, w', hr, hO, hg⟩
/-- A text more. -/
theorem run_apZ (w : World) (base : Nat) (v : Value) (O : Bts) (s : S) (ho : Ob base w v O) (hl : O.length + s.size ≤ 8796093022208) (hbase : base ≤ w.heap.size) :
    ∃ a c w', (apZ 23 #[v, .string s]).run Tryd.prog w = .ok (.slice a (O.length + s.size) c) w' ∧ Ob base w' (.slice a (O.length + s.size) c) (O ++ bl s) ∧ w.grownBy w' v.ownBlock := by
  obtain ⟨i0, hi0, hz0, hz1, hz2⟩ := info_parts info5b
  obtain ⟨v', w', r, hw, hg, -⟩ := Lib.run_append_own_string (P := Tryd.prog) (w := w) base 23 9 23 5 i0 Tryd.underlying23 Tryd.underlying9 hi0 hz0 hz1 hz2 v (O.map bR).length _ ho.1 s (by rw [List.length_map]; unfold maxLen; omega) (by rw [List.length_map]; omega) hbase
  have hO : Ob base w' v' (O ++ bl s) := ⟨by
    have e : ((O ++ bl s).map bR).length = (O.map bR).length + s.size := by simp [bl_len]
    rw [e, List.map_append, flat_app, flat_b (bl s)]
    exact hw, rs_b _⟩
  obtain ⟨a, c, rfl⟩ := hO.form
  rw [List.length_append, bl_len] at r hO
  exact ⟨a, c, w', r, hO, hg⟩
/-- The bytes as a text. -/
theorem run_cvB (w : World) (base : Nat) (v : Value) (O : Bts) (ho : Ob base w v O) : (cvB v).run Tryd.prog w = .ok (.string ⟨O.toArray⟩) w := by
  rcases ho.1.2 with ⟨rfl, h2⟩ | ⟨g, cap, cur, h1, h2, h3, h4, h5, h6, h7⟩
  · obtain rfl : O = [] := by
      have := List.length_eq_zero_iff.1 h2
      simpa using this
    unfold cvB
    rw [run_convert_bytes_string w 23 9 5 none _ 0 Tryd.underlying23 Tryd.underlying5 Tryd.underlying9]
    simp [Conv.bytesToString]
    rfl
  · rw [List.length_map] at h1
    subst h1
    refine run_convert_bytes_back (P := Tryd.prog) w 23 9 5 ⟨g, 0, none⟩ cap O Tryd.underlying23 Tryd.underlying5 Tryd.underlying9 fun j hj => ?_
    have := Ol.cel ho j 0 (bR O[j]) (.int .u8 (O[j].toNat : Int)) (by rw [List.getElem?_map, List.getElem?_eq_getElem hj]; rfl) rfl
    rw [Addr.add_mid]
    simpa using this
theorem idx9 (w : World) (s : S) (k : Nat) (c : UInt8) (r : Bts) (h : (bl s).drop k = c :: r) : (Instr.index 9 (.string s) (.int .i64 (k : Int))).run Tryd.prog w = .ok (.int .u8 (c.toNat : Int)) w := by
  have hk : k < s.size := by
    rw [← bl_len]
    have := congrArg List.length h
    simp at this
    omega
  rw [run_index_string _ _ _ _ _ Tryd.underlying9, dif_pos ⟨by omega, by omega⟩]
  have e : (bl s)[k]? = some c := by
    have := congrArg (fun l => l[0]?) h
    simpa using this
  have e2 : s[k]'hk = c := by
    obtain ⟨hq, e⟩ := List.getElem?_eq_some_iff.1 e
    rw [← e]
    rfl
  simp [e2]
theorem drop_cons {l : Bts} {k : Nat} (h : k < l.length) : ∃ c r, l.drop k = c :: r ∧ l.drop (k + 1) = r := ⟨l[k], l.drop (k + 1), List.drop_eq_getElem_cons h, rfl⟩
/-- A text of a list that lies. -/
theorem Ls.txt {W : World} {oa : Option Addr} {n c : Nat} {l : List S} (h : Ls W (.slice oa n c) 1 (l.map sR)) {i : Nat} {s : S} (hi : l[i]? = some s) : ∃ g o, oa = some ⟨g, o, none⟩ ∧ ∀ w, Below W.heap.size W w → w.cell? ⟨g, o + i, none⟩ = some (.string s) := by
  obtain ⟨a, c', e, -, -, -, -, hc⟩ := h
  cases e
  obtain ⟨g, o, e1, g1, r1⟩ := hc i (sR s) (by rw [List.getElem?_map, hi]; rfl)
  refine ⟨g, o, e1, fun w hw => ?_⟩
  have k1 := range_block r1 (hw.block _ g1) 0 (.string s) rfl
  rw [Nat.mul_one, Nat.add_zero] at k1
  exact k1
/-- Where the search among the changes is. -/
def HV (C : List Pai) (d : Bts) (i : Nat) (z : Int) : Prop := (z = -1 ∧ i ≤ C.length ∧ ∀ (j : Nat) x, j < i → C[j]? = some x → ¬ bl x.1 <+: d) ∨ (∃ (j : Nat) (x : Pai), z = (j : Int) ∧ j < C.length ∧ C[j]? = some x ∧ hit C d = some x)
section
attribute [local go_sem ↓] toApB toApZ toCvB
end
end Go.Proofs.YtceclpabdfncoaaDoor.Re

/- changesOf. -/
namespace Go.Proofs.YtceclpabdfncoaaDoor.Re
open Go.RowKit
def zH : Array Value := #[.slice none 0 0, .int .i64 0]
theorem sizeH : (Tryd.prog.info? 53).map (·.size) = some 2 := by kernel_rfl
theorem sizeC : (Tryd.prog.info? 66).map (·.size) = some 2 := by kernel_rfl
def ldH (p : Value) : Sem Value := Instr.loadAt 53 p
theorem toLdH (p : Value) : Instr.loadAt 53 p = ldH p := rfl
def stH (p v : Value) : Sem Unit := Instr.storeAt 53 p v
theorem toStH (p v : Value) : Instr.storeAt 53 p v = stH p v := rfl
def stC (p v : Value) : Sem Unit := Instr.storeAt 66 p v
theorem toStC (p v : Value) : Instr.storeAt 66 p v = stC p v := rfl
def ldC (p : Value) : Sem Value := Instr.loadAt 66 p
theorem toLdC (p : Value) : Instr.loadAt 66 p = ldC p := rfl
def bdC (ps : Array (Nat × Value)) : Sem Value := Instr.build 66 ps
theorem toBdC (ps : Array (Nat × Value)) : Instr.build 66 ps = bdC ps := rfl
theorem bd_C (w : World) (a b : S) : (bdC #[(0, .string a), (1, .string b)]).run Tryd.prog w = .ok (.agg #[.string a, .string b]) w := run_build w 66 _ _ (by kernel_rfl)
theorem bd_C0 (w : World) : (bdC #[]).run Tryd.prog w = .ok (.agg #[.string ⟨#[]⟩, .string ⟨#[]⟩]) w := run_build w 66 _ _ (by kernel_rfl)
theorem ld_H (w : World) (g : Nat) (c : Array Value) (hc : c.size = 2) (h : w.heap[g]? = some (.cells c 53 (0, 0))) : (ldH (.pointer (some ⟨g, 0, none⟩))).run Tryd.prog w = .ok (.agg c) w := by
  have h2 := World.rangeAt_of_block h 0 2
  rw [show c.extract 0 (0 + 2) = c by rw [← hc, Nat.zero_add]; simp] at h2
  have := run_loadAt_mid (P := Tryd.prog) w g 0 53 c.toList _ h2 Tryd.underlying53 rfl (by rw [sizeH]; simp [hc])
  simpa [ldH] using this
theorem st_H (w : World) (g : Nat) (C D : Array Value) (hC : C.size = 2) (hD : D.size = 2) (h1 : D.all (·.oneCell') = true) (hg : w.heap[g]? = some (.cells C 53 (0, 0))) : (stH (.pointer (some ⟨g, 0, none⟩)) (.agg D)).run Tryd.prog w = .ok () (w.setRow g D) := by
  unfold stH
  simp only [Instr.storeAt, Instr.sureAddr, Sem.run_bind, Sem.run_pure, Result.andThen_ok, run_storeVar_row w g 53 53 C D hg (by rw [sizeH, hD]) (by rw [hD, hC]) h1]
theorem ld_C (w : World) (g o : Nat) (x : Pai) (h : w.rangeAt g o (eR x).toList) : (ldC (.pointer (some ⟨g, o, none⟩))).run Tryd.prog w = .ok (.agg (eR x)) w := by
  have := run_loadAt_mid (P := Tryd.prog) w g o 66 (eR x).toList _ h Tryd.underlying66 rfl (by rw [sizeC]; rfl)
  exact this
theorem st_C (w : World) (g o : Nat) (x : Pai) (ht : w.there g o 2) : (stC (.pointer (some ⟨g, o, none⟩)) (.agg #[.string x.1, .string x.2])).run Tryd.prog w = .ok () ((w.setCell ⟨g, o, none⟩ (.string x.1)).setCell ⟨g, o + 1, none⟩ (.string x.2)) := by
  have := run_storeAt_mid (P := Tryd.prog) w g o 66 #[.string x.1, .string x.2] ht (by rw [sizeC]; rfl) (by simp [Value.oneCell'])
  exact this
theorem results_H {fn : Func} {p : Tmp} (h : fn.results = #[.cell p 53]) (tmps : Array Value) (w : World) (g : Nat) (C : Array Value) (hC : C.size = 2)
    (hp : tmps.getD p undef = .pointer (some ⟨g, 0, none⟩)) (hg : w.heap[g]? = some (.cells C 53 (0, 0))) :
    (results fn tmps).run Tryd.prog w = .ok (.agg C) w := by
  have hp' : tmps[p]?.getD undef = .pointer (some ⟨g, 0, none⟩) := by simpa using hp
  simp [results, h, hp', asAddr, run_loadVar_row w g 53 53 C (0, 0) _ hg Tryd.underlying53 rfl (by rw [sizeH, hC])]
def ZP : Pai := (⟨#[]⟩, ⟨#[]⟩)
theorem infoC : (Tryd.prog.info? 66).map (fun i => (i.zero, i.size, i.bytes)) = some (some (.agg #[.string ⟨#[]⟩, .string ⟨#[]⟩]), 2, 32) := by kernel_rfl
theorem flat_repC (n : Nat) : flat ((List.replicate n ZP).map eR) = List.replicate (n * 2) (.string ⟨#[]⟩) := by
  induction n with
  | zero => rfl
  | succ n ih =>
    rw [List.replicate_succ, List.map_cons, Nat.succ_mul]
    show (eR ZP).toList ++ flat ((List.replicate n ZP).map eR) = _
    rw [ih]
    show [Value.string ⟨#[]⟩, Value.string ⟨#[]⟩] ++ _ = _
    rw [show n * 2 + 2 = n * 2 + 1 + 1 from rfl, List.replicate_succ, List.replicate_succ]
    rfl
theorem run_mkC (w : World) (n : Nat) (hn : n ≤ 10000000) : ∃ w', (Instr.makeSlice 51 (.int .i64 (n : Int)) (.int .i64 (n : Int))).run Tryd.prog w = .ok (.slice (some ⟨w.heap.size, 0, none⟩) n n) w' ∧ Ol w.heap.size 66 2 w' (.slice (some ⟨w.heap.size, 0, none⟩) n n) ((List.replicate n ZP).map eR) ∧ Below w.heap.size w w' := by
  obtain ⟨i0, hi0, hz0, hz1, hz2⟩ := info_parts infoC
  obtain ⟨w', h1, h2, h3⟩ := run_make_full (P := Tryd.prog) w w.heap.size 51 66 i0 _ 2 Tryd.underlying51 hi0 hz0 hz1 .i64 .i64 n (by rw [hz2]; omega) (by unfold maxLen; omega) (Nat.le_refl _)
  have e : (madeCells (Value.cells (.agg #[.string ⟨#[]⟩, .string ⟨#[]⟩])) (n * 2)).toList = List.replicate (n * 2) (.string ⟨#[]⟩) := by
    apply List.ext_getElem?
    intro j
    simp only [madeCells, List.getElem?_replicate]
    by_cases q : j < n * 2
    · have hm : j % 2 = 0 ∨ j % 2 = 1 := by omega
      rcases hm with z | z <;> simp [q, Value.cells, z]
    · simp [q]
  refine ⟨w', h1, ⟨?_, rs_e _⟩, ⟨h3.os, h3.tape, h3.output, h3.size, fun j hj => h3.block j hj (fun q => by cases q)⟩⟩
  rw [flat_repC, List.length_map, List.length_replicate, ← e]
  exact h2
/-- The changes in the making. -/
structure Ci (W : World) (C : List Pai) (n g cb i : Nat) (least : Nat) (wr : World) : Prop where
  bel : Below W.heap.size W wr
  ans : wr.heap[W.heap.size]? = some (.cells zH 53 (0, 0))
  own : Ol (W.heap.size + 1) 66 2 wr (.slice (some ⟨g, 0, none⟩) n n) ((C.take i ++ List.replicate (n - i) ZP).map eR)
  box : wr.heap[cb]? = some (.cells #[.slice (some ⟨g, 0, none⟩) n n, .int .i64 (least : Int)] 53 (0, 0))
  hcb : W.heap.size < cb
theorem Ci.below {W : World} {C : List Pai} {n g cb i least : Nat} {wr w' : World} (h : Ci W C n g cb i least wr) (hb : Below wr.heap.size wr w') : Ci W C n g cb i least w' :=
  ⟨h.bel.trans (hb.mono h.bel.size), (hb.block _ (Array.getElem?_eq_some_iff.1 h.ans).1).trans h.ans, h.own.below hb, (hb.block _ (Array.getElem?_eq_some_iff.1 h.box).1).trans h.box, h.hcb⟩
theorem Ci.put {W : World} {C : List Pai} {n g cb i least : Nat} {wr : World} (h : Ci W C n g cb i least wr) (hn : C.length = n) {x : Pai} (hx : C[i]? = some x) :
    wr.there g (i * 2) 2 ∧ Ci W C n g cb (i + 1) least ((wr.setCell ⟨g, i * 2, none⟩ (.string x.1)).setCell ⟨g, i * 2 + 1, none⟩ (.string x.2)) := by
  have hi := (List.getElem?_eq_some_iff.1 hx).1
  have hl : (C.take i ++ List.replicate (n - i) ZP)[i]? = some ZP := by
    rw [List.getElem?_append_right (by simp; omega)]
    simp [List.getElem?_replicate, show min i C.length = i by omega]
    omega
  have hl2 : ((C.take i ++ List.replicate (n - i) ZP).map eR)[i]? = some (eR ZP) := by rw [List.getElem?_map, hl]; rfl
  have gt := h.own.tag (g := g) rfl
  have t1 : wr.cell? ⟨g, i * 2 + 0, none⟩ = some (.string ⟨#[]⟩) := h.own.cel i 0 _ _ hl2 rfl
  have t2 : wr.cell? ⟨g, i * 2 + 1, none⟩ = some (.string ⟨#[]⟩) := h.own.cel i 1 _ _ hl2 rfl
  refine ⟨fun j hj => ⟨?_, h.own.fro _⟩, ?_⟩
  · have : j = 0 ∨ j = 1 := by omega
    rcases this with rfl | rfl
    · rw [t1]; rfl
    · rw [t2]; rfl
  · have o1 := h.own.setc i 0 _ (.string x.1) hl2 (by omega) rfl
    have hl3 : (((C.take i ++ List.replicate (n - i) ZP).map eR).set i ((eR ZP).setIfInBounds 0 (.string x.1)))[i]? = some ((eR ZP).setIfInBounds 0 (.string x.1)) := by
      rw [List.getElem?_set_self (by simp; omega)]
    have o2 := o1.setc i 1 _ (.string x.2) hl3 (by omega) rfl
    obtain ⟨_, _, cur, hc⟩ := gt
    have ne1 : W.heap.size ≠ g := (tag_ne hc h.ans (by decide)).symm
    have ne2 : cb ≠ g := (tag_ne hc h.box (by decide)).symm
    refine ⟨(h.bel.setCell (p := ⟨g, i * 2, none⟩) (by show W.heap.size ≤ g; omega) _).setCell (p := ⟨g, i * 2 + 1, none⟩) (by show W.heap.size ≤ g; omega) _, ?_, ?_, ?_, h.hcb⟩
    · rw [heap_setCell_other _ _ _ _ (by exact ne1), heap_setCell_other _ _ _ _ (by exact ne1)]; exact h.ans
    · have e : ((((C.take i ++ List.replicate (n - i) ZP).map eR).set i ((eR ZP).setIfInBounds 0 (.string x.1))).set i (((eR ZP).setIfInBounds 0 (.string x.1)).setIfInBounds 1 (.string x.2))) = (C.take (i + 1) ++ List.replicate (n - (i + 1)) ZP).map eR := by
        rw [List.set_set]
        show ((C.take i ++ List.replicate (n - i) ZP).map eR).set i (eR x) = _
        rw [← List.map_set, List.set_append_right _ _ (by simp; omega), List.take_add_one, hx]
        have e1 : i - (C.take i).length = 0 := by simp; omega
        rw [e1, show n - i = (n - (i + 1)) + 1 by omega, List.replicate_succ]
        simp
      rw [e] at o2
      exact o2
    · rw [heap_setCell_other _ _ _ _ (by exact ne2), heap_setCell_other _ _ _ _ (by exact ne2)]; exact h.box
theorem Ci.low {W : World} {C : List Pai} {n g cb i least : Nat} {wr : World} (h : Ci W C n g cb i least wr) (m : Nat) : wr.frozen? ⟨cb, 1, none⟩ = false ∧ Ci W C n g cb i m (wr.setCell ⟨cb, 1, none⟩ (.int .i64 (m : Int))) := by
  obtain ⟨_, _, cur, hc⟩ := h.own.tag (g := g) rfl
  have ne2 : g ≠ cb := tag_ne hc h.box (by decide)
  refine ⟨frozen_of_row _ _ _ _ _ h.box, h.bel.setCell (p := ⟨cb, 1, none⟩) (by have := h.hcb; show W.heap.size ≤ cb; omega) _, ?_, ?_, ?_, h.hcb⟩
  · rw [heap_setCell_other _ _ _ _ (by have := h.hcb; show W.heap.size ≠ cb; omega)]; exact h.ans
  · exact h.own.keep fun b hb => heap_setCell_other _ _ _ _ (by
      show b ≠ cb
      have : b = g := by simp [Value.ownBlock] at hb; exact hb.symm
      rw [this]; exact ne2)
  · exact heap_setCell_same _ _ _ _ _ _ h.box
/-- What changesOf leaves. -/
def ChP (W : World) (fr to : List S) (e : Ending) (w' : World) : Prop := ∃ (oa : Option Addr) (cap least : Nat) (C : List Pai), e = .returned (.agg #[.slice oa C.length cap, .int .i64 (least : Int)]) ∧ C.Perm (fr.zip to) ∧ Sd C ∧ Ls w' (.slice oa C.length cap) 2 (C.map eR) ∧ (∀ x ∈ C, least ≤ x.1.size) ∧ least ≤ 2000000 ∧ Below W.heap.size W w'
section
attribute [local go_sem ↓] toLdH toStH toStC toBdC
set_option maxRecDepth 100000 in
set_option maxHeartbeats 3200000 in
theorem changes_any (W : World) (fv tv : Value) (fr to : List S) (hf : Ls W fv 1 (fr.map sR)) (ht : Ls W tv 1 (to.map sR)) (hn : fr.length = to.length) (hfz : ∀ x ∈ fr, x.size ≤ 2000000) (hnl : fr.length ≤ 10000000) : Calls Tryd.prog 12 #[fv, tv] W (ChP W fr to) := by
  obtain ⟨of, cf, rfl⟩ := hf.form
  obtain ⟨ot, ct, rfl⟩ := ht.form
  rw [List.length_map] at hf ht ⊢
  rw [List.length_map]
  obtain ⟨n, hn1⟩ : ∃ n, fr.length = n := ⟨_, rfl⟩
  rw [hn1] at hf
  rw [← hn, hn1] at ht
  rw [hn1, ← hn, hn1]
  obtain ⟨C, hC⟩ : ∃ C, fr.zip to = C := ⟨_, rfl⟩
  have hCl : C.length = n := by rw [← hC, List.length_zip]; omega
  have hCg : ∀ (j : Nat) x, C[j]? = some x → fr[j]? = some x.1 ∧ to[j]? = some x.2 := fun j x hx => by
    rw [← hC] at hx
    exact List.getElem?_zip_eq_some.1 hx
  have HF : Hid (∀ (j : Nat) x, C[j]? = some x → ∃ g o, of = some ⟨g, o, none⟩ ∧ ∀ w, Below W.heap.size W w → w.cell? ⟨g, o + j, none⟩ = some (.string x.1)) := fun j x hx => hf.txt (hCg j x hx).1
  have HT : Hid (∀ (j : Nat) x, C[j]? = some x → ∃ g o, ot = some ⟨g, o, none⟩ ∧ ∀ w, Below W.heap.size W w → w.cell? ⟨g, o + j, none⟩ = some (.string x.2)) := fun j x hx => ht.txt (hCg j x hx).2
  have HZ : Hid (∀ (j : Nat) x, C[j]? = some x → x.1.size ≤ 2000000) := fun j x hx => hfz _ (List.mem_of_getElem? (hCg j x hx).1)
  have HX : Hid (C.length = n ∧ n ≤ 10000000 ∧ fr.zip to = C) := ⟨hCl, by omega, hC⟩
  obtain ⟨A, hA⟩ : ∃ A, W.alloc (.cells zH 53) = A := ⟨_, rfl⟩
  have bA : Below W.heap.size W A := by rw [← hA]; exact (Below.refl _ W).alloc (Nat.le_refl _) _
  have rA : A.heap[W.heap.size]? = some (.cells zH 53 (0, 0)) := by rw [← hA]; exact heap_alloc_new _ _
  have zA : A.heap.size = W.heap.size + 1 := by rw [← hA]; simp
  obtain ⟨M, mr, mo, mb⟩ := run_mkC A n (by omega)
  rw [zA] at mr mo mb
  have rM : M.heap[W.heap.size]? = some (.cells zH 53 (0, 0)) := (mb.block _ (by omega)).trans rA
  have bM : Below W.heap.size W M := bA.trans (mb.mono (by omega))
  have zM : W.heap.size + 1 < M.heap.size := (mo.tag (g := W.heap.size + 1) rfl).2.1
  obtain ⟨X, hX⟩ : ∃ X, (M.alloc (.cells zH 53)).setRow M.heap.size #[.slice (some ⟨W.heap.size + 1, 0, none⟩) n n, .int .i64 0] = X := ⟨_, rfl⟩
  have sX := st_H (M.alloc (.cells zH 53)) M.heap.size zH #[.slice (some ⟨W.heap.size + 1, 0, none⟩) n n, .int .i64 0] rfl rfl (by simp [Value.oneCell']) (heap_alloc_new _ _)
  have rX : X.heap[M.heap.size]? = some (.cells #[.slice (some ⟨W.heap.size + 1, 0, none⟩) n n, .int .i64 0] 53 (0, 0)) := by rw [← hX]; exact setRow_heap _ _ _ _ _ _ (heap_alloc_new _ _)
  have bX : Below M.heap.size M X := by rw [← hX]; exact below_setRow ((Below.refl _ M).alloc (Nat.le_refl _) _) (Nat.le_refl _) _
  rw [hX] at sX
  have HI : Hid (Ci W C n (W.heap.size + 1) M.heap.size 0 0 X) := ⟨bM.trans (bX.mono bM.size), (bX.block _ (by omega)).trans rM, by
    have := mo.below bX
    simpa using this, rX, by omega⟩
  rw [← hA] at mr
  unfold zH at mr sX
  clear hf ht hn hfz hnl hn1 hC hCl hCg hA bA rA zA mo mb rM bM zM hX rX bX
  go_enter Tryd.func12, Tryd.ntmps12
  go_wp2_with fail
  clear mr sX
  obtain ⟨cb, hcb⟩ : ∃ cb, M.heap.size = cb := ⟨_, rfl⟩
  obtain ⟨g, hg⟩ : ∃ g, W.heap.size + 1 = g := ⟨_, rfl⟩
  rw [hcb, hg] at HI
  rw [hcb]
  clear hcb hg
  go_loopw [6, 13] (fun _ iv wr => ∃ (i : Nat), iv = .int .i64 (i : Int) ∧ Hid (∃ least : Nat, i ≤ n ∧ Ci W C n g cb i least wr ∧ (∀ x ∈ C.take i, least ≤ x.1.size) ∧ least ≤ 2000000)) (fun _ iv _ => n + 1 - (intOf iv).toNat)
  case atStart => exact ⟨0, rfl, 0, Nat.zero_le _, HI.out, fun x hx => Nat.zero_le _, Nat.zero_le _⟩
  case round =>
    obtain ⟨i, rfl, HJ⟩ := hrel
    by_cases hi : i < n
    · obtain ⟨least, ile, ci, hle, hlb⟩ := HJ.out
      obtain ⟨x, hx⟩ : ∃ x, C[i]? = some x := ⟨_, List.getElem?_eq_getElem (by have := HX.out.1; omega)⟩
      obtain ⟨gf, qf, rfl, hcf⟩ := HF.out i x hx
      obtain ⟨gt, qt, rfl, hct⟩ := HT.out i x hx
      have ciE := ci.below (below_drw wr)
      have kE : wr.drew.cell? ⟨cb, 0, none⟩ = some (.slice (some ⟨g, 0, none⟩) n n) := c1 ciE.box rfl
      have cE1 := hcf wr.drew ciE.bel
      have cE2 := hct wr.drew ciE.bel
      obtain ⟨th, ci2⟩ := ciE.put HX.out.1 hx
      have sC := st_C wr.drew g (i * 2) x th
      have bC := bd_C wr.drew x.1 x.2
      obtain ⟨Z, hZ⟩ : ∃ Z, (wr.drew.setCell ⟨g, i * 2, none⟩ (.string x.1)).setCell ⟨g, i * 2 + 1, none⟩ (.string x.2) = Z := ⟨_, rfl⟩
      rw [hZ] at sC ci2
      have HZx : Hid (x.1.size ≤ 2000000 ∧ C[i]? = some x ∧ i < n) := ⟨HZ.out i x hx, hx, hi⟩
      have HCI : Hid (∀ k, Ci W C n g cb (i + 1) least (Z.drewN k)) := fun k => ci2.below ⟨rfl, rfl, rfl, Nat.le_refl _, fun _ _ => rfl⟩
      have cZ1 : ∀ k, (Z.drewN k).cell? ⟨gf, qf + i, none⟩ = some (.string x.1) := fun k => hcf _ (HCI.out k).bel
      have cZ2 : ∀ k, (Z.drewN k).cell? ⟨cb, 1, none⟩ = some (.int .i64 (least : Int)) := fun k => c1 (HCI.out k).box rfl
      have HLE : Hid ((∀ y ∈ C.take i, least ≤ y.1.size) ∧ least ≤ 2000000) := ⟨hle, hlb⟩
      have HTK : Hid (C.take (i + 1) = C.take i ++ [x]) := by show _ = _; rw [List.take_add_one, hx]; rfl
      have hi0 : (0 : Int) ≤ (i : Int) := by omega
      have hi1 : (i : Int) < (n : Int) := by omega
      have w1' : IntKind.i64.wrap ((i : Int) + 1) = (i : Int) + 1 := by rw [IntKind.wrap_i64]; have := HX.out.2.1; omega
      obtain ⟨x1, x2⟩ := x
      have HLO : Hid (∀ k, (Z.drewN k).frozen? ⟨cb, 1, none⟩ = false ∧ Ci W C n g cb (i + 1) x1.size ((Z.drewN k).setCell ⟨cb, 1, none⟩ (.int .i64 (x1.size : Int)))) := fun k => (HCI.out k).low x1.size
      clear hi ile ci hle hlb hx hcf hct ciE th ci2 hZ
      go_wp2_with fail
      go_region
      go_wp2_with fail
      by_cases hz : i = 0
      · have hd : ((i : Int) == 0) = true := beq_iff_eq.2 (by omega)
        have HI0 : Hid (i = 0) := hz
        clear hz
        go_quiet (fail)
        obtain ⟨fz, ci3⟩ := HLO.out nq
        have HC3 : Hid (Ci W C n g cb (i + 1) x1.size ((Z.drewN nq).setCell ⟨cb, 1, none⟩ (.int .i64 (x1.size : Int)))) := ci3
        clear ci3
        go_wp2_with fail
        go_roundw
        case rel => exact ⟨i + 1, by go_num, x1.size, HZx.out.2.2, HC3.out, fun y hy => by
          rw [HTK.out, HI0.out] at hy
          simp at hy
          rw [hy]; exact Nat.le_refl _, HZx.out.1⟩
        case measure => have := HZx.out.2.2; simp [intOf]; omega
      · have hd : ((i : Int) == 0) = false := by rw [beq_eq_false_iff_ne]; omega
        clear hz
        by_cases hm : x1.size < least
        · have hm1 : decide ((x1.size : Int) < (least : Int)) = true := decide_eq_true (by omega)
          have HM : Hid (x1.size < least) := hm
          clear hm
          go_quiet (fail)
          obtain ⟨fz, ci3⟩ := HLO.out nq
          have HC3 : Hid (Ci W C n g cb (i + 1) x1.size ((Z.drewN nq).setCell ⟨cb, 1, none⟩ (.int .i64 (x1.size : Int)))) := ci3
          clear ci3
          go_wp2_with fail
          go_roundw
          case rel => exact ⟨i + 1, by go_num, x1.size, HZx.out.2.2, HC3.out, fun y hy => by
            rw [HTK.out] at hy
            rcases List.mem_append.1 hy with q | q
            · have := HLE.out.1 y q; have := HM.out; omega
            · simp at q; rw [q]; exact Nat.le_refl _, HZx.out.1⟩
          case measure => have := HZx.out.2.2; simp [intOf]; omega
        · have hm1 : decide ((x1.size : Int) < (least : Int)) = false := decide_eq_false (by omega)
          have HM : Hid (¬ x1.size < least) := hm
          clear hm
          go_quiet (fail)
          go_wp2_with fail
          go_roundw
          case rel => exact ⟨i + 1, by go_num, least, HZx.out.2.2, HCI.out _, fun y hy => by
            rw [HTK.out] at hy
            rcases List.mem_append.1 hy with q | q
            · exact HLE.out.1 y q
            · simp at q; rw [q]; have := HM.out; show least ≤ x1.size; omega, HLE.out.2⟩
          case measure => have := HZx.out.2.2; simp [intOf]; omega
    · obtain ⟨least, ile, ci, hle, hlb⟩ := HJ.out
      obtain rfl : i = n := by omega
      have hi1 : ¬ ((i : Int) < (i : Int)) := by omega
      have hCi := HX.out.1
      have own := ci.own
      rw [Nat.sub_self, List.replicate_zero, List.append_nil, List.take_of_length_le (by omega)] at own
      have HSo : Hid _ := sort_any C (by have := HX.out.2.1; omega) g _ wr (by rw [hCi]; exact own)
      rw [hCi] at HSo
      have kE : wr.cell? ⟨cb, 0, none⟩ = some (.slice (some ⟨g, 0, none⟩) i i) := c1 ci.box rfl
      rw [List.take_of_length_le (by omega)] at hle
      have HCI : Hid (Ci W C i g cb i least wr ∧ (∀ x ∈ C, least ≤ x.1.size) ∧ least ≤ 2000000) := ⟨ci, hle, hlb⟩
      clear hi ile ci hle hlb hCi own
      go_wp2_with fail
      refine Calls.mono HSo.out ?_
      rintro e w2 ⟨rfl, D, stp⟩
      have ci := HCI.out.1
      obtain ⟨_, hgz, cur, hc⟩ := ci.own.tag (g := g) rfl
      have r1 := stp.blk cb _ ci.box (tag_ne hc ci.box (by decide)).symm
      have r2 := stp.blk W.heap.size _ ci.ans (tag_ne hc ci.ans (by decide)).symm
      have l1 := ld_H w2 cb _ rfl r1
      have s1 := st_H w2 W.heap.size _ #[.slice (some ⟨g, 0, none⟩) i i, .int .i64 (least : Int)] rfl rfl (by simp [Value.oneCell']) r2
      obtain ⟨Z, hZ⟩ : ∃ Z, w2.setRow W.heap.size #[.slice (some ⟨g, 0, none⟩) i i, .int .i64 (least : Int)] = Z := ⟨_, rfl⟩
      have hD : D.length = i := by have := stp.perm.length_eq; have := HX.out.1; omega
      have b2 : Below W.heap.size W w2 := ci.bel.trans (stp.bel W.heap.size (by have := (ci.own.tag (g := g) rfl).1; omega) ci.bel.size)
      have HE : Hid (Z.heap[W.heap.size]? = some (.cells #[.slice (some ⟨g, 0, none⟩) i i, .int .i64 (least : Int)] 53 (0, 0)) ∧ Ls Z (.slice (some ⟨g, 0, none⟩) D.length D.length) 2 (D.map eR) ∧ Below W.heap.size W Z ∧ D.length = i ∧ D.Perm C ∧ Sd D) := by
        rw [← hZ]
        refine ⟨setRow_heap _ _ _ _ _ _ r2, ?_, below_setRow b2 (Nat.le_refl _) _, hD, stp.perm, stp.sd⟩
        obtain ⟨oa, cap, e1, e2, e3, e4, e5, e6⟩ := stp.ls
        refine ⟨oa, cap, e1, e2, e3, e4, e5, fun j c hcj => ?_⟩
        obtain ⟨g', o', q1, q2, q3⟩ := e6 j c hcj
        have : g' = g := by
          have := e1.symm
          rw [q1] at this
          injection this with q
          injection q with q
          injection q with q _
        subst this
        have hne : g' ≠ W.heap.size := tag_ne hc ci.ans (by decide)
        exact ⟨g', o', q1, by simpa [World.setRow] using q2, range_block q3 (setRow_other _ _ _ _ hne)⟩
      rw [hZ] at s1
      clear stp ci hc r1 r2 hD b2 hZ hgz
      go_wp2_with fail
      refine bodyPost_ret (results_H rfl _ _ W.heap.size _ rfl rfl HE.out.1) rfl ?_
      obtain ⟨-, e2, e3, e4, e5, e6⟩ := HE.out
      exact ⟨_, _, least, D, by rw [e4], by rw [HX.out.2.2]; exact e5, e6, e2, fun x hx => HCI.out.2.1 x (e5.mem_iff.1 hx), HCI.out.2.2, e3⟩
end
end Go.Proofs.YtceclpabdfncoaaDoor.Re
