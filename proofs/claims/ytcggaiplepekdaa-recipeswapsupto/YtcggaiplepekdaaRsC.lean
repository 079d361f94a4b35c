/- The document's swapped. -/
import Derived.Test.YtcggaiplepekdaaRsA
import Derived.Laws.IdiomStrings
import Derived.Lib.AppendStr
namespace Go.Proofs.Ytcggaiplepekdaa
open Go.RowKit
def bR (b : UInt8) : Array Value := #[.int .u8 (b.toNat : Int)]
theorem rs_b (l : Bts) : Rs 1 (l.map bR) := fun c hc => by
  obtain ⟨x, _, rfl⟩ := List.mem_map.1 hc
  exact ⟨rfl, by simp [bR, Value.oneCell']⟩
theorem flat_b (l : Bts) : flat (l.map bR) = l.map (fun b => Value.int .u8 (b.toNat : Int)) := by
  induction l with
  | nil => rfl
  | cons b l ih =>
    show (bR b).toList ++ flat (l.map bR) = _
    rw [ih]; rfl
theorem info5b : (Try.prog.info? 5).map (fun i => (i.zero, i.size, i.bytes)) = some (some (.int .u8 0), 1, 1) := by kernel_rfl
/-- Bytes of one's own. -/
def Ob (base : Nat) (W : World) (v : Value) (O : Bts) : Prop := Ol base 5 1 W v (O.map bR)
theorem Ob.form {base : Nat} {W : World} {v : Value} {O : Bts} (h : Ob base W v O) : ∃ a c, v = .slice a O.length c := by
  obtain ⟨a, c, q, -⟩ := Ol.form h
  rw [List.length_map] at q
  exact ⟨a, c, q⟩
def apB (ty : Nat) (vs : Array Value) : Sem Value := Builtin.append_ #[74, 74] ty vs
theorem toApB (ty : Nat) (vs : Array Value) : Builtin.append_ #[74, 74] ty vs = apB ty vs := rfl
def apZ (ty : Nat) (vs : Array Value) : Sem Value := Builtin.append_ #[74, 9] ty vs
theorem toApZ (ty : Nat) (vs : Array Value) : Builtin.append_ #[74, 9] ty vs = apZ ty vs := rfl
def cvB (v : Value) : Sem Value := convert 74 9 v
theorem toCvB (v : Value) : convert 74 9 v = cvB v := rfl
theorem Ob.bel {base B : Nat} {W w w' : World} {v : Value} {O : Bts} (h : Ob base w v O) (hg : w.grownBy w' v.ownBlock) (hb : Below B W w) (hB : B ≤ base) (hW : B ≤ W.heap.size) : Below B W w' :=
  ⟨hg.os.trans hb.os, hg.tape.trans hb.tape, hg.output.trans hb.output, Nat.le_trans hb.size hg.size, fun j hj => (hg.block j (Nat.lt_of_lt_of_le hj (Nat.le_trans hW hb.size)) (fun q => by have := (Ol.tag h q.symm).1; omega)).trans (hb.block j hj)⟩
/-- One byte more. -/
theorem run_apB1 (w : World) (base : Nat) (v : Value) (O : Bts) (b : UInt8) (ho : Ob base w v O) (hl : O.length + 1 ≤ 8796093022208) (hbase : base ≤ w.heap.size) :
    ∃ a c w', (apB 74 #[v, .slice (some ⟨w.heap.size, 0, none⟩) 1 1]).run Try.prog (w.alloc (.cells #[.int .u8 (b.toNat : Int)] 5)) = .ok (.slice a (O.length + 1) c) w' ∧ Ob base w' (.slice a (O.length + 1) c) (O ++ [b]) ∧ (w.alloc (.cells #[.int .u8 (b.toNat : Int)] 5)).grownBy w' v.ownBlock := by
  obtain ⟨i0, hi0, hz0, hz1, hz2⟩ := info_parts info5b
  have hA : Ob base (w.alloc (.cells #[.int .u8 (b.toNat : Int)] 5)) v O := ⟨ho.1.alloc _, ho.2⟩
  have hcell : ∀ (k : Nat) x, ([.int .u8 (b.toNat : Int)] : List Value)[k]? = some x → (w.alloc (.cells #[.int .u8 (b.toNat : Int)] 5)).cell? ((⟨w.heap.size, 0, none⟩ : Addr).add k) = some x := fun k x hx => by
    have hk : k = 0 := by have := (List.getElem?_eq_some_iff.1 hx).1; simpa using this
    subst hk
    obtain rfl : Value.int .u8 (b.toNat : Int) = x := by simpa using hx
    rw [Addr.add_mid, cell_of_row _ _ _ _ _ _ (heap_alloc_new _ _)]
    rfl
  obtain ⟨v', w', hr, hw, hg, -, -⟩ := run_append_own_at (P := Try.prog) (w.alloc (.cells #[.int .u8 (b.toNat : Int)] 5)) base 74 74 5 i0 (.int .u8 0) 1 1 Try.underlying74 hi0 hz0 hz1 hz2 rfl (by omega) v (O.map bR).length _ hA.1 ⟨w.heap.size, 0, none⟩ 1 1 [.int .u8 (b.toNat : Int)] rfl hcell (fun u hu => by simp at hu; subst hu; rfl) (by rw [List.length_map]; unfold maxLen; omega) (by rw [List.length_map]; omega) (by simp; omega)
  have hO : Ob base w' v' (O ++ [b]) := ⟨by rw [List.map_append, flat_app, List.length_append]; exact hw, rs_b _⟩
  obtain ⟨a, c, rfl⟩ := hO.form
  rw [List.length_append] at hr hO
  exact ⟨a, c, w', hr, hO, hg⟩
/-- A text more. -/
theorem run_apZ (w : World) (base : Nat) (v : Value) (O : Bts) (s : S) (ho : Ob base w v O) (hl : O.length + s.size ≤ 8796093022208) (hbase : base ≤ w.heap.size) :
    ∃ a c w', (apZ 74 #[v, .string s]).run Try.prog w = .ok (.slice a (O.length + s.size) c) w' ∧ Ob base w' (.slice a (O.length + s.size) c) (O ++ bl s) ∧ w.grownBy w' v.ownBlock := by
  obtain ⟨i0, hi0, hz0, hz1, hz2⟩ := info_parts info5b
  obtain ⟨v', w', r, hw, hg, -⟩ := Lib.run_append_own_string (P := Try.prog) (w := w) base 74 9 74 5 i0 Try.underlying74 Try.underlying9 hi0 hz0 hz1 hz2 v (O.map bR).length _ ho.1 s (by rw [List.length_map]; unfold maxLen; omega) (by rw [List.length_map]; omega) hbase
  have hO : Ob base w' v' (O ++ bl s) := ⟨by
    have e : ((O ++ bl s).map bR).length = (O.map bR).length + s.size := by simp [bl_len]
    rw [e, List.map_append, flat_app, flat_b (bl s)]
    exact hw, rs_b _⟩
  obtain ⟨a, c, rfl⟩ := hO.form
  rw [List.length_append, bl_len] at r hO
  exact ⟨a, c, w', r, hO, hg⟩
/-- The bytes as a text. -/
theorem run_cvB (w : World) (base : Nat) (v : Value) (O : Bts) (ho : Ob base w v O) : (cvB v).run Try.prog w = .ok (.string ⟨O.toArray⟩) w := by
  rcases ho.1.2 with ⟨rfl, h2⟩ | ⟨g, cap, cur, h1, h2, h3, h4, h5, h6, h7⟩
  · obtain rfl : O = [] := by
      have := List.length_eq_zero_iff.1 h2
      simpa using this
    unfold cvB
    rw [run_convert_bytes_string w 74 9 5 none _ 0 Try.underlying74 Try.underlying5 Try.underlying9]
    simp [Conv.bytesToString]
    rfl
  · rw [List.length_map] at h1
    subst h1
    refine run_convert_bytes_back (P := Try.prog) w 74 9 5 ⟨g, 0, none⟩ cap O Try.underlying74 Try.underlying5 Try.underlying9 fun j hj => ?_
    have := Ol.cel ho j 0 (bR O[j]) (.int .u8 (O[j].toNat : Int)) (by rw [List.getElem?_map, List.getElem?_eq_getElem hj]; rfl) rfl
    rw [Addr.add_mid]
    simpa using this
theorem idx9 (w : World) (s : S) (k : Nat) (c : UInt8) (r : Bts) (h : (bl s).drop k = c :: r) : (Instr.index 9 (.string s) (.int .i64 (k : Int))).run Try.prog w = .ok (.int .u8 (c.toNat : Int)) w := by
  have hk : k < s.size := by
    rw [← bl_len]
    have := congrArg List.length h
    simp at this
    omega
  rw [run_index_string _ _ _ _ _ Try.underlying9, dif_pos ⟨by omega, by omega⟩]
  have e : (bl s)[k]? = some c := by
    have := congrArg (fun l => l[0]?) h
    simpa using this
  have e2 : s[k]'hk = c := by
    obtain ⟨hq, e⟩ := List.getElem?_eq_some_iff.1 e
    rw [← e]
    rfl
  simp [e2]
theorem drop_cons {l : Bts} {k : Nat} (h : k < l.length) : ∃ c r, l.drop k = c :: r ∧ l.drop (k + 1) = r := ⟨l[k], l.drop (k + 1), List.drop_eq_getElem_cons h, rfl⟩
/-- A text of a list that lies. -/
theorem Ls.txt {W : World} {oa : Option Addr} {n c : Nat} {l : List S} (h : Ls W (.slice oa n c) 1 (l.map sR)) {i : Nat} {s : S} (hi : l[i]? = some s) : ∃ g o, oa = some ⟨g, o, none⟩ ∧ ∀ w, Below W.heap.size W w → w.cell? ⟨g, o + i, none⟩ = some (.string s) := by
  obtain ⟨a, c', e, -, -, -, -, hc⟩ := h
  cases e
  obtain ⟨g, o, e1, g1, r1⟩ := hc i (sR s) (by rw [List.getElem?_map, hi]; rfl)
  refine ⟨g, o, e1, fun w hw => ?_⟩
  have k1 := range_block r1 (hw.block _ g1) 0 (.string s) rfl
  rw [Nat.mul_one, Nat.add_zero] at k1
  exact k1
/-- Where the search among the changes is. -/
def HV (C : List Pai) (d : Bts) (i : Nat) (z : Int) : Prop := (z = -1 ∧ i ≤ C.length ∧ ∀ (j : Nat) x, j < i → C[j]? = some x → ¬ bl x.1 <+: d) ∨ (∃ (j : Nat) (x : Pai), z = (j : Int) ∧ j < C.length ∧ C[j]? = some x ∧ hit C d = some x)
section
attribute [local go_sem ↓] toApB toApZ toCvB
set_option maxRecDepth 100000 in
set_option maxHeartbeats 3200000 in
theorem swappedR_any (W : World) (s : S) (fv tv : Value) (fr to : List S) (hf : Ls W fv 1 (fr.map sR)) (ht : Ls W tv 1 (to.map sR)) (hn : fr.length = to.length) (hp : PF (fr.zip to)) (hne : NE (fr.zip to)) (hs : s.size ≤ 4000000000) (hfz : ∀ x ∈ fr, x.size ≤ 4000000000) (hnl : fr.length ≤ 100000000) (hM : (SW (fr.zip to) (bl s)).length ≤ 8796093022208) :
    Calls Try.prog 27 #[.string s, fv, tv] W fun e w' => e = .returned (.string (swS (fr.zip to) s)) ∧ Below W.heap.size W w' := by
  obtain ⟨of, cf, rfl⟩ := hf.form
  obtain ⟨ot, ct, rfl⟩ := ht.form
  rw [List.length_map] at hf ht ⊢
  rw [List.length_map]
  obtain ⟨n, hn1⟩ : ∃ n, fr.length = n := ⟨_, rfl⟩
  rw [hn1] at hf
  rw [← hn, hn1] at ht
  rw [hn1, ← hn, hn1]
  obtain ⟨C, hC⟩ : ∃ C, fr.zip to = C := ⟨_, rfl⟩
  rw [hC] at hp hne hM ⊢
  have hCl : C.length = n := by rw [← hC, List.length_zip]; omega
  have hCg : ∀ (j : Nat) x, C[j]? = some x → fr[j]? = some x.1 ∧ to[j]? = some x.2 := fun j x hx => by
    rw [← hC] at hx
    have := List.getElem?_zip_eq_some.1 hx
    exact this
  have HX : Hid (PF C ∧ NE C ∧ C.length = n ∧ n ≤ 100000000 ∧ s.size ≤ 4000000000) := ⟨hp, hne, hCl, by omega, hs⟩
  have HM : Hid ((SW C (bl s)).length ≤ 8796093022208) := hM
  have HF : Hid (∀ (j : Nat) x, C[j]? = some x → ∃ g o, of = some ⟨g, o, none⟩ ∧ ∀ w, Below W.heap.size W w → w.cell? ⟨g, o + j, none⟩ = some (.string x.1)) := fun j x hx => hf.txt (hCg j x hx).1
  have HT : Hid (∀ (j : Nat) x, C[j]? = some x → ∃ g o, ot = some ⟨g, o, none⟩ ∧ ∀ w, Below W.heap.size W w → w.cell? ⟨g, o + j, none⟩ = some (.string x.2)) := fun j x hx => ht.txt (hCg j x hx).2
  have HP : Hid (∀ (j k : Nat) x w, C[j]? = some x → k ≤ s.size → Calls Try.prog 39 #[.string s, .int .i64 (k : Int), .string x.1] w fun e w' => e = .returned (.bool ((bl x.1).isPrefixOf ((bl s).drop k))) ∧ w' = w) := fun j k x w hx hk => piece_any s x.1 k hs (hfz _ (List.mem_of_getElem? (hCg j x hx).1)) hk w
  have HZ : Hid (∀ (j : Nat) x, C[j]? = some x → x.1.size ≤ 4000000000) := fun j x hx => hfz _ (List.mem_of_getElem? (hCg j x hx).1)
  clear hf ht hn hp hne hs hfz hnl hM hn1 hC hCl hCg
  go_enter Try.func27, Try.ntmps27
  go_wp2_with fail
  go_loopw [7, 8, 9, 10, 11] (fun ov av _ _ _ wr => ∃ (a : Option Addr) (l c k : Nat), ov = .slice a l c ∧ av = .int .i64 (k : Int) ∧ Hid (∃ O : Bts, l = O.length ∧ k ≤ s.size ∧ Ob W.heap.size wr (.slice a l c) O ∧ Below W.heap.size W wr ∧ O ++ SW C ((bl s).drop k) = SW C (bl s))) (fun _ av _ _ _ _ => s.size + 1 - (intOf av).toNat)
  case atStart => exact ⟨none, 0, 0, 0, rfl, rfl, [], rfl, Nat.zero_le _, ol_nil _ _ _ _, Below.refl _ _, by simp⟩
  case round =>
    obtain ⟨a, l, c, k, rfl, rfl, HI⟩ := hrel
    by_cases hk : k < s.size
    · have hk1 : (k : Int) < (s.size : Int) := by omega
      have HK : Hid (k < s.size) := hk
      clear hk
      go_wp2_with fail
      go_loopw [9, 10, 11] (fun hv iv _ w2 => ∃ (z : Int) (i : Nat), hv = .int .i64 z ∧ iv = .int .i64 (i : Int) ∧ w2 = wr ∧ Hid (HV C ((bl s).drop k) i z ∧ i ≤ n)) (fun _ iv _ _ => n + 1 - (intOf iv).toNat)
      case atStart => exact ⟨-1, 0, rfl, rfl, rfl, .inl ⟨rfl, Nat.zero_le _, fun j x q => by omega⟩, Nat.zero_le _⟩
      case round =>
        obtain ⟨z, i, rfl, rfl, rfl, HJ⟩ := hrel
        rcases HJ.out.1 with ⟨rfl, hi, hno⟩ | ⟨j, x, rfl, hj, hx, hh⟩
        · by_cases hin : i < n
          · have hi1 : (i : Int) < (n : Int) := by omega
            obtain ⟨x, hx⟩ : ∃ x, C[i]? = some x := ⟨_, List.getElem?_eq_getElem (by rw [HX.out.2.2.1]; exact hin)⟩
            obtain ⟨g, o, rfl, hcell⟩ := HF.out i x hx
            have c1 := hcell wr (by obtain ⟨O, -, -, -, q, -⟩ := HI.out; exact q)
            have C1 : Hid _ := HP.out i k x wr hx (by have := HK.out; omega)
            have hi0 : (0 : Int) ≤ (i : Int) := by omega
            have w1 : IntKind.i64.wrap ((i : Int) + 1) = (i : Int) + 1 := by rw [IntKind.wrap_i64]; have := HX.out.2.2.2; omega
            have HL : Hid (i < n ∧ C[i]? = some x ∧ ∀ (j : Nat) x, j < i → C[j]? = some x → ¬ bl x.1 <+: (bl s).drop k) := ⟨hin, hx, hno⟩
            obtain ⟨x1, x2⟩ := x
            clear hin hx hno hi hcell
            cases hb : (bl x1).isPrefixOf ((bl s).drop k) with
            | true =>
              simp only [hb] at C1
              have HB : Hid ((bl x1).isPrefixOf ((bl s).drop k) = true) := hb
              clear hb
              go_wp2_with fail
              refine Calls.mono C1.out ?_
              rintro e w' ⟨rfl, rfl⟩
              go_wp2_with fail
              go_roundw
              case rel => exact ⟨_, i + 1, rfl, by go_num, trivial, .inr ⟨i, (x1, x2), rfl, by have := HL.out.1; have := HX.out.2.2.1; omega, HL.out.2.1, hit_of HX.out.1 (List.mem_of_getElem? HL.out.2.1) (List.isPrefixOf_iff_prefix.1 HB.out)⟩, HL.out.1⟩
              case measure => have := HL.out.1; simp [intOf]; omega
            | false =>
              simp only [hb] at C1
              have HB : Hid ((bl x1).isPrefixOf ((bl s).drop k) = false) := hb
              clear hb
              go_wp2_with fail
              refine Calls.mono C1.out ?_
              rintro e w' ⟨rfl, rfl⟩
              go_wp2_with fail
              go_roundw
              case rel => exact ⟨_, i + 1, rfl, by go_num, trivial, .inl ⟨rfl, by have := HL.out.1; have := HX.out.2.2.1; omega, fun j y hj hy => by
                by_cases q : j = i
                · subst q
                  obtain rfl : (x1, x2) = y := Option.some.inj (HL.out.2.1.symm.trans hy)
                  intro q
                  have h1 := List.isPrefixOf_iff_prefix.2 q
                  rw [HB.out] at h1
                  cases h1
                · exact HL.out.2.2 j y (by omega) hy⟩, HL.out.1⟩
              case measure => have := HL.out.1; simp [intOf]; omega
          · have hi1 : ¬ ((i : Int) < (n : Int)) := by omega
            have hnone : hit C ((bl s).drop k) = none := hit_none.2 fun x hx => by
              obtain ⟨j, hj⟩ := List.mem_iff_getElem?.1 hx
              exact hno j x (by have := (List.getElem?_eq_some_iff.1 hj).1; have := HX.out.2.2.1; omega) hj
            obtain ⟨O, rfl, hk2, ho, hb, he⟩ := HI.out
            obtain ⟨ch, r, hd, hd1⟩ := drop_cons (l := bl s) (k := k) (by rw [bl_len]; exact HK.out)
            have ix := idx9 wr s k ch r hd
            rw [hd] at he hnone
            rw [SW_miss HX.out.2.1 hnone] at he
            have hOl : O.length + 1 ≤ 8796093022208 := by
              have := congrArg List.length he
              have := HM.out
              simp at *
              omega
            obtain ⟨a2, c2, w3, hr, ho2, hg⟩ := run_apB1 wr W.heap.size _ O ch ho hOl hb.size
            have hbA : Below W.heap.size W (wr.alloc (.cells #[.int .u8 (ch.toNat : Int)] 5)) := hb.alloc hb.size _
            have HE : Hid (∃ O' : Bts, O.length + 1 = O'.length ∧ k + 1 ≤ s.size ∧ Ob W.heap.size w3 (.slice a2 (O.length + 1) c2) O' ∧ Below W.heap.size W w3 ∧ O' ++ SW C ((bl s).drop (k + 1)) = SW C (bl s)) :=
              ⟨O ++ [ch], by simp, HK.out, ho2, Ob.bel (base := W.heap.size) (v := .slice a O.length c) (O := O) ⟨ho.1.alloc _, ho.2⟩ hg hbA (Nat.le_refl _) (Nat.le_refl _), by rw [hd1, ← he]; simp⟩
            have w1 : IntKind.i64.wrap ((k : Int) + 1) = (k : Int) + 1 := by rw [IntKind.wrap_i64]; have := HX.out.2.2.2.2; have := HK.out; omega
            clear hin hno hi hnone ho hb he hk2 hd hd1 hOl ho2 hg hbA
            go_wp2_with fail
            go_roundw
            case rel => exact ⟨_, _, _, k + 1, rfl, by go_num, HE.out⟩
            case measure => have := HK.out; simp [intOf]; omega
        · obtain ⟨O, rfl, hk2, ho, hb, he⟩ := HI.out
          have he0 := he
          rw [SW_hit HX.out.2.1 hh, List.drop_drop, bl_len] at he
          have hpl := (hit_some hh).2.length_le
          rw [List.length_drop, bl_len, bl_len] at hpl
          have hpos : 0 < x.1.size := by rw [← bl_len]; exact List.length_pos_iff.2 (HX.out.2.1 x (hit_some hh).1)
          have hOl : O.length + x.2.size ≤ 8796093022208 := by
            have h1 := congrArg List.length he
            have h2 := HM.out
            rw [← h1] at h2
            simp [bl_len] at h2
            omega
          obtain ⟨a2, c2, w3, hr, ho2, hg⟩ := run_apZ wr W.heap.size _ O x.2 ho hOl hb.size
          obtain ⟨gt, qt, rfl, hct⟩ := HT.out j x hx
          obtain ⟨gf, qf, rfl, hcf⟩ := HF.out j x hx
          have ct1 := hct wr hb
          have b3 : Below W.heap.size W w3 := ho.bel hg hb (Nat.le_refl _) (Nat.le_refl _)
          have cf1 := hcf w3 b3
          have hj0 : (0 : Int) ≤ (j : Int) := by omega
          have hj1 : (j : Int) < (n : Int) := by have := HX.out.2.2.1; omega
          have hj2 : ¬ ((j : Int) < 0) := by omega
          have w1 : IntKind.i64.wrap ((k : Int) + (x.1.size : Int)) = (k : Int) + (x.1.size : Int) := by rw [IntKind.wrap_i64]; have := HZ.out j x hx; have := HX.out.2.2.2.2; omega
          have HE : Hid (∃ O' : Bts, O.length + x.2.size = O'.length ∧ k + x.1.size ≤ s.size ∧ Ob W.heap.size w3 (.slice a2 (O.length + x.2.size) c2) O' ∧ Below W.heap.size W w3 ∧ O' ++ SW C ((bl s).drop (k + x.1.size)) = SW C (bl s)) :=
            ⟨O ++ bl x.2, by simp [bl_len], by omega, ho2, b3, by rw [List.append_assoc]; exact he⟩
          have HQ : Hid (0 < x.1.size) := hpos
          obtain ⟨x1, x2⟩ := x
          simp only at hr ct1 cf1 w1 HE HQ
          clear he he0 hpl hpos hOl ho hb ho2 hg hct hcf b3 hk2 hh hx
          by_cases hin : i < n
          · have hi1 : (i : Int) < (n : Int) := by omega
            clear hin
            go_wp2_with fail
            go_roundw
            case rel => exact ⟨_, _, _, k + x1.size, rfl, by go_num, HE.out⟩
            case measure => have := HK.out; have := HQ.out; simp [intOf]; omega
          · have hi1 : ¬ ((i : Int) < (n : Int)) := by omega
            clear hin
            go_wp2_with fail
            go_roundw
            case rel => exact ⟨_, _, _, k + x1.size, rfl, by go_num, HE.out⟩
            case measure => have := HK.out; have := HQ.out; simp [intOf]; omega
    · have hk1 : ¬ ((k : Int) < (s.size : Int)) := by omega
      obtain ⟨O, rfl, hk2, ho, hb, he⟩ := HI.out
      obtain rfl : k = s.size := by omega
      rw [List.drop_of_length_le (by rw [bl_len]; exact Nat.le_refl _), SW_nil, List.append_nil] at he
      have cv : (cvB (.slice a O.length c)).run Try.prog wr = .ok (.string (swS C s)) wr := by
        have := run_cvB wr W.heap.size _ O ho
        rw [show (⟨O.toArray⟩ : ByteArray) = swS C s by rw [he]; rfl] at this
        exact this
      have HE : Hid (Below W.heap.size W wr) := hb
      clear hk ho hb he hk2
      go_wp2_with fail
      go_ret
      exact ⟨rfl, HE.out⟩
end
end Go.Proofs.Ytcggaiplepekdaa
