import Derived.Test.YtkppejaigodgiaaDoorKnown
import Derived.Laws.OwnMore
namespace Go.Proofs.YtkppejaigodgiaaDoor
open Go.RowKit
noncomputable def tail6 : Code := ((Tryd.f6.body.bind (fromR 13)).getD .skip)
theorem write_tb (g : Nat) (m d : List Nat) (hdb : Byt d) (hn : m.length + d.length ≤ 1152921504606846976) (v : Value) (w : World) (hv : Bts g v d w) (hg : g ≠ 1) (ht : Tb w) (hT : Took roundN startN m g w) :
    Calls Tryd.prog 10 #[.pointer (some ⟨g, 0, none⟩), v] w fun e w' => e = .returned (.int .i64 0) ∧ Took roundN startN (m ++ d) g w' ∧ Touch g w w' :=
  write_took roundN startN mixOK rfl startN_wrd g m d hdb hn v w hv hg ht.sz ht.s ht.k hT
theorem sum_tb (g : Nat) (m : List Nat) (hn : m.length ≤ 1152921504606846976) (w : World) (ht : Tb w) (hT : Took roundN startN m g w) :
    Calls Tryd.prog 11 #[.pointer (some ⟨g, 0, none⟩)] w fun e w' => e = .returned (.agg (bs (sha m))) ∧ Below w.heap.size w w' :=
  sum_took roundN startN mixOK rfl startN_wrd g m hn w ht.sz ht.s ht.k hT
theorem sha_len (m : List Nat) : (sha m).length = 32 := shaN_len _ _ _
theorem sha_byt (m : List Nat) : Byt (sha m) := shaN_byt _ _ _
theorem Tb.touch {w w' : World} (h : Tb w) {g : Nat} (ht : Touch g w w') (hg : 1 < g) : Tb w' :=
  ⟨Nat.lt_of_lt_of_le h.sz ht.size, fun j hj => (World.cell?_of_block (w := w) (ht.block 0 (by have := h.sz; omega) (by omega))).trans (h.s j hj), fun j hj => (World.cell?_of_block (w := w) (ht.block 1 h.sz (by omega))).trans (h.k j hj)⟩
theorem below_touch {B g : Nat} {a w w' : World} (h : Below B a w) (ht : Touch g w w') (hg : B ≤ g) (hB : B ≤ w.heap.size) : Below B a w' := h.trans (ht.below hg hB)
theorem eq28 (w : World) (a b : List Nat) (ha : a.length = 32) (hb : b.length = 32) : (Op.equalIn 10000 28 (.agg (bs a)) (.agg (bs b))).run Tryd.prog w = .ok (decide (a = b)) w :=
  run_equalIn_bs w 9998 Tryd.underlying28 Tryd.underlying5 size5 a b ha hb
theorem take_one (l : List Nat) (k : Nat) (h : k < l.length) : l.take (k + 1) = l.take k ++ [l.getD k 0] := by
  rw [List.take_succ_eq_append_getElem h]; simp [List.getD, h]
theorem xor_getD (kb : List Nat) (c k : Nat) (h : k < kb.length) : (kb.map (fun b => b ^^^ c)).getD k 0 = kb.getD k 0 ^^^ c := by
  simp [List.getD, h]
theorem bts_new {g : Nat} (w : World) (x : Nat) (hg : g < w.heap.size) : Bts g (.slice (some ⟨w.heap.size, 0, none⟩) 1 1) [x] (w.alloc (.cells #[.int .u8 (x : Int)] 5)) :=
  .inr ⟨w.heap.size, 0, 1, rfl, Nat.le_refl _, by decide, by omega, by simp, fun j hj => by
    have hj0 : j = 0 := by simpa using hj
    subst hj0
    rw [cell_of_row _ _ _ _ _ _ (heap_alloc_new _ _)]; rfl⟩
theorem Byl.bts' {v : Value} {d : List Nat} {w w' : World} (h : Byl v d w) (g : Nat) (hg : w.heap.size ≤ g) (hb : Below w.heap.size w w') : Bts g v d w' := h.bts g hg hb.size hb.block
set_option maxRecDepth 100000 in
set_option maxHeartbeats 3200000 in
theorem keyed_tail (key d kb : List Nat) (hkb : kb = keyB roundN startN key) (hky : Byt key) (hdb : Byt d) (hkl : key.length ≤ 1000000000000000000) (hdl : d.length ≤ 1000000000000000000) (d_o : Option Addr) (dc : Nat) (kv v6 v7 v12 v13 v14 v15 v16 v17 v18 v19 v20 v21 v22 v23 v24 v25 v26 v27 v28 v29 v30 v31 v32 v33 v34 v35 v36 v37 v38 v39 v40 v41 v42 v43 v44 : Value) (w W1 : World) (ht : Tb w)
    (hk : Byl kv key w) (hd : Byl (.slice d_o d.length dc) d w) (bel1 : Below w.heap.size w W1) (hI : Hid (W1.heap[w.heap.size]? = some (.cells (bs kb) 36 (0, 0)))) :
    Code.wp Tryd.prog tail6 (bodyPost Tryd.prog Tryd.f6 (fun e w' => e = .returned (.bool true) ∧ Below w.heap.size w w'))
      ⟨#[kv, .slice d_o d.length dc, undef, undef, .bool false, .pointer (some ⟨w.heap.size, 0, none⟩), v6, v7, undef, undef, undef, undef, v12, v13, v14, v15, v16, v17, v18, v19, v20, v21, v22, v23, v24, v25, v26, v27, v28, v29, v30, v31, v32, v33, v34, v35, v36, v37, v38, v39, v40, v41, v42, v43, v44, undef, undef, undef, undef, undef, undef, undef, undef, undef, undef, undef, undef, undef, undef, undef, undef, undef, undef, undef, undef, undef, undef, undef, undef, undef, undef, undef, undef, undef, undef, undef, undef, undef, undef, undef, undef, undef, undef, undef, undef], []⟩ W1 := by
  have kbl : kb.length = 64 := by rw [hkb]; exact keyB_len _ _ _
  have kbb : Byt kb := by rw [hkb]; exact keyB_byt _ _ _ hky
  have HKB : Hid (kb = keyB roundN startN key) := hkb
  clear hkb
  have hsw := ht.sz
  have hl1 : w.heap.size < W1.heap.size := (Array.getElem?_eq_some_iff.1 hI.out).1
  conv => arg 2; whnf
  go_wp2_with (go_at_call 8; refine (new_any _).mono ?_; rintro e w' ⟨rfl, rfl⟩)
  generalize hW : (W1.alloc (Obj.cells hz 43)).alloc (Obj.cells hz 43) = W2
  have tk1 : Took roundN startN [] W1.heap.size W2 := took_zero _ _ _ _ (by rw [← hW]; exact heap_alloc2_old _ _ _)
  have tk2 : Took roundN startN [] (W1.heap.size + 1) W2 := took_zero _ _ _ _ (by rw [← hW]; exact heap_alloc2_new _ _ _)
  have hI2 : Hid (W2.heap[w.heap.size]? = some (.cells (bs kb) 36 (0, 0))) := by rw [← hW]; exact (heap_alloc_old _ _ (h := by simp; omega)).trans ((heap_alloc_old _ _ (h := hl1)).trans hI.out)
  have bel2 : Below w.heap.size w W2 := by rw [← hW]; exact (bel1.alloc (by omega) _).alloc (by simp; omega) _
  have hl2 : W1.heap.size + 2 ≤ W2.heap.size := by rw [← hW]; simp
  clear hW hI bel1
  revert hl1 tk1 tk2 hl2
  generalize W1.heap.size = G
  intro hl1 tk1 tk2 hl2
  go_loopw [10] (fun i wr => ∃ k : Nat, i = .int .i64 (k : Int) ∧ k ≤ 64 ∧ Hid (Took roundN startN ((kb.map (fun b => b ^^^ 54)).take k) G wr) ∧ Hid (Took roundN startN ((kb.map (fun b => b ^^^ 92)).take k) (G + 1) wr) ∧ Hid (wr.heap[w.heap.size]? = some (.cells (bs kb) 36 (0, 0))) ∧ Below w.heap.size w wr ∧ Hid (G + 2 ≤ wr.heap.size)) (fun i _ => 64 - (intOf i).toNat)
  case atStart => exact ⟨0, rfl, by omega, by rw [List.take_zero]; exact tk1, by rw [List.take_zero]; exact tk2, hI2, bel2, hl2⟩
  case round =>
    clear tk1 tk2 hI2 bel2 hl2
    obtain ⟨k, rfl, hk', T1, T2, hI, bel, hz⟩ := hrel
    have tbr : Tb wr := ht.below bel hsw
    by_cases hlt : k < 64
    · obtain ⟨x, hx⟩ : ∃ x, x = kb.getD k 0 := ⟨_, rfl⟩
      have hx256 : x < 256 := by rw [hx]; exact getD_lt kbb _
      have hk0 : (0 : Int) ≤ (k : Int) := by omega
      have hk1 : (k : Int) < 64 := by omega
      have cx : wr.cell? ⟨w.heap.size, k, none⟩ = some (.int .u8 (x : Int)) := by rw [cell_of_row wr _ _ _ _ _ hI.out, bs_get _ _ (by omega), hx]
      have x1 : bits BinOp.xor IntKind.u8 (x : Int) 54 = ((x ^^^ 54 : Nat) : Int) := u8_xor_nat x 54 hx256 (by decide)
      have x2 : bits BinOp.xor IntKind.u8 (x : Int) 92 = ((x ^^^ 92 : Nat) : Int) := u8_xor_nat x 92 hx256 (by decide)
      have b1 : Byt [x ^^^ 54] := fun y hy => by rw [List.mem_singleton.1 hy]; exact Nat.xor_lt_two_pow (n := 8) hx256 (by decide)
      have b2 : Byt [x ^^^ 92] := fun y hy => by rw [List.mem_singleton.1 hy]; exact Nat.xor_lt_two_pow (n := 8) hx256 (by decide)
      have HX : Hid (x = kb.getD k 0) := hx
      clear hx
      have hzr := hz.out
      have al1 : Below wr.heap.size wr (wr.alloc (.cells #[.int .u8 ((x ^^^ 54 : Nat) : Int)] 5)) := (Below.refl _ _).alloc (Nat.le_refl _) _
      have C1 : Hid (Calls Tryd.prog 10 #[.pointer (some ⟨G, 0, none⟩), .slice (some ⟨wr.heap.size, 0, none⟩) 1 1] (wr.alloc (.cells #[.int .u8 ((x ^^^ 54 : Nat) : Int)] 5)) fun e w' => e = .returned (.int .i64 0) ∧ Took roundN startN ((kb.map (fun b => b ^^^ 54)).take (k + 1)) G w' ∧ Touch G (wr.alloc (.cells #[.int .u8 ((x ^^^ 54 : Nat) : Int)] 5)) w') := by
        have := write_tb G ((kb.map (fun b => b ^^^ 54)).take k) [x ^^^ 54] b1 (by simp [kbl]; omega) _ _ (bts_new wr (x ^^^ 54) (by omega)) (by omega) (tbr.below al1 tbr.sz) (T1.out.keep (heap_alloc_old _ _ (h := by omega)))
        rw [take_one _ k (by rw [List.length_map, kbl]; exact hlt), xor_getD kb 54 k (by omega), ← HX.out]
        exact this
      have HZ : Hid (G + 2 ≤ wr.heap.size) := hz
      clear hzr
      go_wp2_with fail
      refine C1.out.mono ?_
      rintro e w1 ⟨rfl, t1, c1⟩
      have hzr := HZ.out
      have bel1 : Below w.heap.size w w1 := below_touch (bel.alloc (by omega) _) c1 (by omega) (by simp; omega)
      have hI1 : Hid (w1.heap[w.heap.size]? = some (.cells (bs kb) 36 (0, 0))) := (c1.block _ (by simp; omega) (by omega)).trans ((heap_alloc_old _ _ (h := by omega)).trans hI.out)
      have T21 : Hid (Took roundN startN ((kb.map (fun b => b ^^^ 92)).take k) (G + 1) w1) := T2.out.keep ((c1.block _ (by simp; omega) (by omega)).trans (heap_alloc_old _ _ (h := by omega)))
      have hz1 : G + 2 ≤ w1.heap.size := by have := c1.size; simp at this; omega
      have tb1 : Tb w1 := ht.below bel1 hsw
      have T1' : Hid (Took roundN startN ((kb.map (fun b => b ^^^ 54)).take (k + 1)) G w1) := t1
      have cx1 : w1.cell? ⟨w.heap.size, k, none⟩ = some (.int .u8 (x : Int)) := by rw [cell_of_row w1 _ _ _ _ _ hI1.out, bs_get _ _ (by omega), HX.out]
      clear t1 c1 C1 al1 T1 T2 hI cx
      have al2 : Below w1.heap.size w1 (w1.alloc (.cells #[.int .u8 ((x ^^^ 92 : Nat) : Int)] 5)) := (Below.refl _ _).alloc (Nat.le_refl _) _
      have C2 : Hid (Calls Tryd.prog 10 #[.pointer (some ⟨G + 1, 0, none⟩), .slice (some ⟨w1.heap.size, 0, none⟩) 1 1] (w1.alloc (.cells #[.int .u8 ((x ^^^ 92 : Nat) : Int)] 5)) fun e w' => e = .returned (.int .i64 0) ∧ Took roundN startN ((kb.map (fun b => b ^^^ 92)).take (k + 1)) (G + 1) w' ∧ Touch (G + 1) (w1.alloc (.cells #[.int .u8 ((x ^^^ 92 : Nat) : Int)] 5)) w') := by
        have := write_tb (G + 1) ((kb.map (fun b => b ^^^ 92)).take k) [x ^^^ 92] b2 (by simp [kbl]; omega) _ _ (bts_new w1 (x ^^^ 92) (by omega)) (by omega) (tb1.below al2 tb1.sz) (T21.out.keep (heap_alloc_old _ _ (h := by omega)))
        rw [take_one _ k (by rw [List.length_map, kbl]; exact hlt), xor_getD kb 92 k (by omega), ← HX.out]
        exact this
      have HZ1 : Hid (G + 2 ≤ w1.heap.size) := hz1
      clear hz1 hzr
      go_wp2_with fail
      refine C2.out.mono ?_
      rintro e w2 ⟨rfl, t2, c2⟩
      have hz1 := HZ1.out
      have bel2 : Below w.heap.size w w2 := below_touch (bel1.alloc (by omega) _) c2 (by omega) (by simp; omega)
      have hI2 : Hid (w2.heap[w.heap.size]? = some (.cells (bs kb) 36 (0, 0))) := (c2.block _ (by simp; omega) (by omega)).trans ((heap_alloc_old _ _ (h := by omega)).trans hI1.out)
      have T12 : Hid (Took roundN startN ((kb.map (fun b => b ^^^ 54)).take (k + 1)) G w2) := T1'.out.keep ((c2.block _ (by simp; omega) (by omega)).trans (heap_alloc_old _ _ (h := by omega)))
      have hz2 : Hid (G + 2 ≤ w2.heap.size) := by have := c2.size; simp at this; show _ ≤ _; omega
      have T2' : Hid (Took roundN startN ((kb.map (fun b => b ^^^ 92)).take (k + 1)) (G + 1) w2) := t2
      clear t2 c2 C2 al2 T21 hI1 cx1 hz1
      go_wp2_with fail
      go_roundw
      case rel => exact ⟨k + 1, by go_num, by omega, T12, T2', hI2, bel2, hz2⟩
      case measure => simp [intOf]; omega
    · have hk64 : k = 64 := by omega
      subst hk64
      have T1' : Hid (Took roundN startN (kb.map (fun b => b ^^^ 54)) G wr) := by have := T1.out; rw [List.take_of_length_le (by rw [List.length_map]; omega)] at this; exact this
      have T2' : Hid (Took roundN startN (kb.map (fun b => b ^^^ 92)) (G + 1) wr) := by have := T2.out; rw [List.take_of_length_le (by rw [List.length_map]; omega)] at this; exact this
      clear T1 T2
      obtain ⟨ib, hib⟩ : ∃ x, x = kb.map (fun b => b ^^^ 54) := ⟨_, rfl⟩
      obtain ⟨ob, hob⟩ : ∃ x, x = kb.map (fun b => b ^^^ 92) := ⟨_, rfl⟩
      rw [← hib] at T1'
      rw [← hob] at T2'
      have ibl : ib.length = 64 := by rw [hib, List.length_map, kbl]
      have obl : ob.length = 64 := by rw [hob, List.length_map, kbl]
      have HIB : Hid (ib = kb.map (fun b => b ^^^ 54)) := hib
      have HOB : Hid (ob = kb.map (fun b => b ^^^ 92)) := hob
      clear hib hob
      go_wp2_with fail
      have hzr := hz.out
      refine (write_tb G ib d hdb (by omega) _ wr (hd.bts' G (by omega) bel) (by omega) tbr T1'.out).mono ?_
      rintro e w1 ⟨rfl, t1, c1⟩
      have bel1 : Below w.heap.size w w1 := below_touch bel c1 (by omega) (by omega)
      have tb1 : Tb w1 := ht.below bel1 hsw
      have hz1 : G + 2 ≤ w1.heap.size := by have := c1.size; omega
      have T21 : Hid (Took roundN startN ob (G + 1) w1) := T2'.out.keep (c1.block _ (by omega) (by omega))
      have T11 : Hid (Took roundN startN (ib ++ d) G w1) := t1
      clear t1 c1 T1' T2' hI tbr bel hzr
      have HZ1 : Hid (G + 2 ≤ w1.heap.size) := hz1
      clear hz1
      go_wp2_with fail
      have hz1 := HZ1.out
      refine (sum_tb G (ib ++ d) (by rw [List.length_append]; omega) w1 tb1 T11.out).mono ?_
      obtain ⟨s1, hs1⟩ : ∃ x, x = sha (ib ++ d) := ⟨_, rfl⟩
      rw [← hs1]
      have s1l : s1.length = 32 := by rw [hs1]; exact sha_len _
      have s1b : Byt s1 := by rw [hs1]; exact sha_byt _
      have HS1 : Hid (s1 = sha (ib ++ d)) := hs1
      clear hs1
      rintro e w2 ⟨rfl, b2⟩
      have z2 := b2.size
      have bel2 : Below w.heap.size w w2 := bel1.trans (b2.mono (by omega))
      have T22 : Hid (Took roundN startN ob (G + 1) w2) := T21.out.keep (b2.block _ (by omega))
      have HZ2 : Hid (G + 2 ≤ w2.heap.size) := by show _ ≤ _; omega
      clear b2 z2 T21 T11 bel1 tb1 hz1
      go_wp2_with (refine wpList_store_row rfl 28 _ _ rfl _ _ rfl rfl 28 _ (by exact heap_alloc_new _ _) (by rw [size28, bs_size, s1l]) (by rw [bs_size, s1l]; rfl) (bs_one _) ?_)
      have hz2 := HZ2.out
      generalize hW : (w2.alloc (Obj.cells _ 28)).setRow w2.heap.size (bs s1) = w3
      have r3 : w3.heap[w2.heap.size]? = some (.cells (bs s1) 28 (0, 0)) := by rw [← hW]; exact setRow_heap _ _ _ _ _ _ (heap_alloc_new _ _)
      have bel3 : Below w.heap.size w w3 := by rw [← hW]; exact below_setRow (bel2.alloc (by omega) _) (by omega) _
      have T23 : Hid (Took roundN startN ob (G + 1) w3) := T22.out.keep (by rw [← hW]; exact (setRow_other _ _ _ _ (by omega)).trans (heap_alloc_old _ _ (h := by omega)))
      have hz3 : w2.heap.size < w3.heap.size := by rw [← hW]; simp
      clear hW
      have tb3 : Tb w3 := ht.below bel3 hsw
      have y3 : Bts (G + 1) (.slice (some ⟨w2.heap.size, 0, none⟩) 32 32) s1 w3 := .inr ⟨w2.heap.size, 0, 32, by rw [s1l], by omega, by decide, by omega, hz3, fun j hj => by rw [Nat.zero_add, cell_of_row w3 _ _ _ _ _ r3, bs_get _ _ hj]⟩
      refine (write_tb (G + 1) ob s1 s1b (by omega) _ w3 y3 (by omega) tb3 T23.out).mono ?_
      rintro e w4 ⟨rfl, t4, c4⟩
      have bel4 : Below w.heap.size w w4 := below_touch bel3 c4 (by omega) (by omega)
      have tb4 : Tb w4 := ht.below bel4 hsw
      have T4 : Hid (Took roundN startN (ob ++ s1) (G + 1) w4) := t4
      clear t4 c4 y3 T23 bel3 tb3 r3 hz3
      go_wp2_with fail
      refine (sum_tb (G + 1) (ob ++ s1) (by rw [List.length_append]; omega) w4 tb4 T4.out).mono ?_
      obtain ⟨M, hM⟩ : ∃ x, x = macN roundN startN key d := ⟨_, rfl⟩
      have hM2 : sha (ob ++ s1) = M := by rw [hM, HS1.out, HOB.out, HIB.out]; unfold macN macT; rw [← HKB.out]; rfl
      have Ml : M.length = 32 := by rw [hM]; exact macN_len _ _ _ _
      rw [hM2]
      have HM : Hid (M = macN roundN startN key d) := hM
      clear hM hM2
      rintro e w5 ⟨rfl, b5⟩
      have z5 := b5.size
      have z4 := bel4.size
      have bel5 : Below w.heap.size w w5 := bel4.trans (b5.mono (by omega))
      have tb5 : Tb w5 := ht.below bel5 hsw
      clear b5
      go_wp2_with fail
      have hmac := mac_tb key d kv _ hky hdb (by omega) (by omega) w5 tb5 (hk.keep bel5.size bel5.block) (hd.keep bel5.size bel5.block)
      rw [← HM.out] at hmac
      refine hmac.mono ?_
      clear hmac
      rintro e w6 ⟨rfl, b6⟩
      have z5 := bel5.size
      have bel6 : Below w.heap.size w w6 := bel5.trans (b6.mono (by omega))
      have tb6 : Tb w6 := ht.below bel6 hsw
      have heq : (Op.equalIn 10000 28 (.agg (bs M)) (.agg (bs M))).run Tryd.prog w6 = .ok true w6 := by have := eq28 w6 M M Ml Ml; simpa using this
      go_wp2_with fail
      refine (of_tb [] _ (by decide) (fun x hx => by cases hx) w6 tb6 (.inl ⟨rfl, rfl⟩)).mono ?_
      rintro e w7 ⟨rfl, b7⟩
      go_wp2_with fail
      refine (hex_nil w7).mono ?_
      rintro e w8 ⟨rfl, b8⟩
      go_wp2_with fail
      go_ret
      refine ⟨?_, ?_⟩
      · show Ending.returned (Value.bool _) = Ending.returned (Value.bool true)
        kernel_rfl
      · have z6 := bel6.size; have z7 := b7.size
        exact bel6.trans ((b7.mono z6).trans (b8.mono (by omega)))
/-- An append, kept shut. -/
def appR (ty : Nat) (vs : Array Value) : Sem Value := Builtin.append_ #[26, 26] ty vs
theorem toApp (ty : Nat) (vs : Array Value) : Builtin.append_ #[26, 26] ty vs = appR ty vs := rfl
theorem grownBy_refl (w : World) (row : Option Nat) : w.grownBy w row := ⟨rfl, rfl, rfl, Nat.le_refl _, fun _ _ _ => rfl⟩
theorem run_append_byl (w : World) (base n ty : Nat) (v sv : Value) (l e : List Nat) (hown : w.ownsRow base 5 1 v n (bs l).toList) (hs : Byl sv e w) (hb : n + e.length ≤ 140737488355328) (hbase : base ≤ w.heap.size) :
    ∃ v' w', (appR ty #[v, sv]).run Tryd.prog w = .ok v' w' ∧ w'.ownsRow base 5 1 v' (n + e.length) (bs (l ++ e)).toList ∧ w.grownBy w' v.ownBlock := by
  obtain ⟨i0, hi0, hz0, hz1, hz2⟩ := info_parts info5
  rcases hs with ⟨rfl, rfl⟩ | ⟨b, off, cap, rfl, h1, h2, h3, h4⟩
  · refine ⟨v, w, run_append_owned_none (P := Tryd.prog) (w := w) base 26 ty 5 i0 1 Tryd.underlying26 hi0 v n _ hown, ?_, grownBy_refl _ _⟩
    rw [List.append_nil]; exact hown
  · obtain ⟨v', w', hr, ho, hg, _⟩ := run_append_own (P := Tryd.prog) w base 26 ty 5 i0 _ 1 1 Tryd.underlying26 hi0 hz0 hz1 hz2 rfl (by omega) v n _ hown ⟨b, off, none⟩ e.length cap (bs e).toList (by simp [bs]) (fun j u hu => by
        have hj : j < e.length := by have := (List.getElem?_eq_some_iff.1 hu).1; simpa [bs] using this
        rw [Array.getElem?_toList, bs_get _ _ hj] at hu
        rw [← hu, Addr.add_mid]
        exact h4 j hj) (fun u hu => by
          have := bs_one e
          rw [Array.all_eq_true_iff_forall_mem] at this
          exact this u (by simpa using hu)) (by unfold maxLen; omega) (by omega) hbase
    refine ⟨v', w', hr, ?_, hg⟩
    have : (bs (l ++ e)).toList = (bs l).toList ++ (bs e).toList := by simp [bs]
    rw [this]; exact ho
noncomputable def tail6b : Code := ((Tryd.f6.body.bind (fromR 8)).getD .skip)
theorem keyB_zero (ks sn key : List Nat) (h : key.length < 64) : keyB ks sn (key ++ [0]) = keyB ks sn key := by
  unfold keyB
  simp only [List.length_append, List.length_singleton, if_neg (show ¬ 64 < key.length + 1 by omega), if_neg (show ¬ 64 < key.length by omega)]
  rw [List.append_assoc, show 64 - key.length = (64 - (key.length + 1)) + 1 by omega, List.replicate_succ]
  rfl
theorem keyB_sum (ks sn key : List Nat) (h : 64 < key.length) : keyB ks sn (shaN ks sn key) = keyB ks sn key := by
  have h1 : ¬ 64 < (shaN ks sn key).length := by rw [shaN_len]; decide
  unfold keyB
  rw [if_neg h1, if_pos h]
theorem nz (w : World) (M : List Nat) (h : M.length = 32) : (Op.equalIn 10000 28 (.agg (bs M)) (.agg (bs M))).run Tryd.prog w = .ok true w := by have := eq28 w M M h h; simpa using this
attribute [local go_sem ↓] to28s to28l toApp
set_option maxRecDepth 100000 in
set_option maxHeartbeats 3200000 in
theorem keyed_mid (key d kb : List Nat) (hkb : kb = keyB roundN startN key) (hky : Byt key) (hdb : Byt d) (hkl : key.length ≤ 1000000000000000000) (hdl : d.length ≤ 1000000000000000000) (ko d_o : Option Addr) (kc dc : Nat) (v6 v12 v13 v14 v15 v16 v17 v18 v19 v20 v21 v22 v23 v24 v25 v26 v27 v28 v29 : Value) (w W1 : World) (ht : Tb w)
    (hk : Byl (.slice ko key.length kc) key w) (hd : Byl (.slice d_o d.length dc) d w) (bel1 : Below w.heap.size w W1) (hI : Hid (W1.heap[w.heap.size]? = some (.cells (bs kb) 36 (0, 0)))) :
    Code.wp Tryd.prog tail6b (bodyPost Tryd.prog Tryd.f6 (fun e w' => e = .returned (.bool true) ∧ Below w.heap.size w w'))
      ⟨#[.slice ko key.length kc, .slice d_o d.length dc, undef, undef, .bool false, .pointer (some ⟨w.heap.size, 0, none⟩), v6, undef, undef, undef, undef, undef, v12, v13, v14, v15, v16, v17, v18, v19, v20, v21, v22, v23, v24, v25, v26, v27, v28, v29, undef, undef, undef, undef, undef, undef, undef, undef, undef, undef, undef, undef, undef, undef, undef, undef, undef, undef, undef, undef, undef, undef, undef, undef, undef, undef, undef, undef, undef, undef, undef, undef, undef, undef, undef, undef, undef, undef, undef, undef, undef, undef, undef, undef, undef, undef, undef, undef, undef, undef, undef, undef, undef, undef, undef], []⟩ W1 := by
  have HKB : Hid (kb = keyB roundN startN key) := hkb
  clear hkb
  have hsw := ht.sz
  conv => arg 2; whnf
  refine wp_seq_k ?_
  intro K hKK
  have HT : Hid (∀ a w', Code.wp Tryd.prog tail6 (bodyPost Tryd.prog Tryd.f6 (fun e w' => e = .returned (.bool true) ∧ Below w.heap.size w w')) a w' → K a w') := hKK
  clear hKK
  by_cases h64 : key.length < 64
  · have h64' : (key.length : Int) < 64 := by omega
    have hl1 : w.heap.size < W1.heap.size := (Array.getElem?_eq_some_iff.1 hI.out).1
    obtain ⟨v1, w1, hr1, ho1, hg1⟩ := run_append_byl W1 (w.heap.size + 1) 0 26 (.slice none 0 0) _ [] key (World.ownsRow_nil _ _ _ _) (hk.keep bel1.size bel1.block) (by omega) (by omega)
    rw [List.nil_append, Nat.zero_add] at ho1
    have bel2 : Below w.heap.size w w1 := below_grown bel1 hg1 (by omega) (fun g hg => by cases hg)
    have hI2 : Hid (w1.heap[w.heap.size]? = some (.cells (bs kb) 36 (0, 0))) := (hg1.block _ hl1 (by intro h; cases h)).trans hI.out
    have hl2 : w.heap.size < w1.heap.size := (Array.getElem?_eq_some_iff.1 hI2.out).1
    have hy0 : Byl (.slice (some ⟨w1.heap.size, 0, none⟩) 1 1) [0] (w1.alloc (.cells #[.int .u8 0] 5)) := byl_row (l := [0]) (heap_alloc_new w1 (.cells (bs [0]) 5)) (by decide)
    obtain ⟨v2, w2, hr2, ho2, hg2⟩ := run_append_byl (w1.alloc (.cells #[.int .u8 0] 5)) (w.heap.size + 1) key.length 26 v1 _ key [0] (ho1.alloc _) hy0 (by simp; omega) (by simp; omega)
    have bel3 : Below w.heap.size w w2 := below_grown (bel2.alloc (by omega) _) hg2 (by simp; omega) (fun g hg => by have := (ho1.lt g hg).1; omega)
    have hI3 : Hid (w2.heap[w.heap.size]? = some (.cells (bs kb) 36 (0, 0))) := (hg2.block _ (by simp; omega) (by intro h; have := (ho1.lt _ h.symm).1; omega)).trans ((heap_alloc_old _ _ (h := hl2)).trans hI2.out)
    have hy2 : Hid (Byl v2 (key ++ [0]) w2) := (byl_own ho2).1
    have hl3 : w.heap.size < w2.heap.size := (Array.getElem?_eq_some_iff.1 hI3.out).1
    have tb3 : Tb w2 := ht.below bel3 hsw
    clear ho1 hg1 ho2 hg2 hy0 bel1 bel2 hI hI2
    go_wp2_with fail
    obtain ⟨M, hM⟩ : ∃ x, x = macN roundN startN key d := ⟨_, rfl⟩
    have Ml : M.length = 32 := by rw [hM]; exact macN_len _ _ _ _
    have hM2 : macN roundN startN (key ++ [0]) d = M := by rw [hM]; unfold macN; rw [keyB_zero _ _ _ h64]
    have hm1 := mac_tb (key ++ [0]) d v2 _ (fun x hx => by
      rcases List.mem_append.1 hx with h | h
      · exact hky x h
      · rw [List.mem_singleton.1 h]; decide) hdb (by simp; omega) (by omega) w2 tb3 hy2.out (hd.keep bel3.size bel3.block)
    rw [hM2] at hm1
    refine hm1.mono ?_
    clear hm1 hM2
    rintro e w3 ⟨rfl, b3⟩
    have z3 := b3.size
    have bel4 : Below w.heap.size w w3 := bel3.trans (b3.mono (by omega))
    have tb4 : Tb w3 := ht.below bel4 hsw
    have hI4 : Hid (w3.heap[w.heap.size]? = some (.cells (bs kb) 36 (0, 0))) := (b3.block _ (by omega)).trans hI3.out
    have hm2 := mac_tb key d _ _ hky hdb (by omega) (by omega) w3 tb4 (hk.keep bel4.size bel4.block) (hd.keep bel4.size bel4.block)
    rw [← hM] at hm2
    have HM2 : Hid (Calls Tryd.prog 16 #[.slice ko key.length kc, .slice d_o d.length dc] w3 fun e w' => e = .returned (.agg (bs M)) ∧ Below w3.heap.size w3 w') := hm2
    clear hm2 hM b3 z3
    go_wp2_with fail
    refine HM2.out.mono ?_
    rintro e w4 ⟨rfl, b4⟩
    have z4 := bel4.size
    have bel5 : Below w.heap.size w w4 := bel4.trans (b4.mono (by omega))
    have hI5 : Hid (w4.heap[w.heap.size]? = some (.cells (bs kb) 36 (0, 0))) := (b4.block _ (by have := (Array.getElem?_eq_some_iff.1 hI4.out).1; omega)).trans hI4.out
    have heq := nz w4 M Ml
    go_wp2_with fail
    refine HT.out _ _ ?_
    exact keyed_tail key d kb HKB.out hky hdb hkl hdl d_o dc _ _ _ _ _ _ _ _ _ _ _ _ _ _ _ _ _ _ _ _ _ _ _ _ _ _ _ _ _ _ _ _ _ _ _ _ w w4 ht hk hd bel5 hI5
  · have h64' : ¬ (key.length : Int) < 64 := by omega
    go_wp2_with fail
    refine HT.out _ _ ?_
    exact keyed_tail key d kb HKB.out hky hdb hkl hdl d_o dc _ _ _ _ _ _ _ _ _ _ _ _ _ _ _ _ _ _ _ _ _ _ _ _ _ _ _ _ _ _ _ _ _ _ _ _ w W1 ht hk hd bel1 hI
set_option maxRecDepth 100000 in
set_option maxHeartbeats 3200000 in
theorem keyed_any (key d : List Nat) (hky : Byt key) (hdb : Byt d) (hkl : key.length ≤ 1000000000000000000) (hdl : d.length ≤ 1000000000000000000) (kv dv : Value) (w : World) (ht : Tb w) (hk : Byl kv key w) (hd : Byl dv d w) :
    Calls Tryd.prog 6 #[kv, dv] w fun e w' => e = .returned (.bool true) ∧ Below w.heap.size w w' := by
  obtain ⟨ko, kc, rfl⟩ := hk.shape
  obtain ⟨d_o, dc, rfl⟩ := hd.shape
  have hal36 : Tryd.prog.arrayLen 36 = 64 := by kernel_rfl
  have hal28 : Tryd.prog.arrayLen 28 = 32 := by kernel_rfl
  have hsw := ht.sz
  have hz64 : z64.length = 64 := by simp [z64]
  go_enter Tryd.func6, Tryd.ntmps6
  by_cases h64 : 64 < key.length
  · have h64' : (64 : Int) < (key.length : Int) := by omega
    go_wp2_with fail
    rename_i Q' K2 h2 K1 h1 K0 h0
    have HT : Hid (∀ a w, Code.wp Tryd.prog tail6b Q' a w → K2 a w) := h2
    clear h2
    generalize hW : w.alloc (Obj.cells _ 36) = W0
    have hI0 : Hid (W0.heap[w.heap.size]? = some (.cells (bs z64) 36 (0, 0))) := by rw [← hW]; exact heap_alloc_new _ _
    have bel0 : Below w.heap.size w W0 := by rw [← hW]; exact (Below.refl _ w).alloc (Nat.le_refl _) _
    have hz0 : w.heap.size < W0.heap.size := by rw [← hW]; simp
    clear hW
    refine (of_tb key _ (by omega) hky W0 (ht.below bel0 hsw) (hk.keep (by omega) bel0.block)).mono ?_
    obtain ⟨s1, hs1⟩ : ∃ x, x = sha key := ⟨_, rfl⟩
    rw [← hs1]
    have s1l : s1.length = 32 := by rw [hs1]; exact sha_len _
    have s1b : Byt s1 := by rw [hs1]; exact sha_byt _
    have hkB : Hid (keyB roundN startN key = s1 ++ z64.drop 32) := by
      show _ = _
      rw [hs1]
      unfold keyB sha
      simp only [if_pos h64, shaN_len]
      rfl
    have HS1 : Hid (s1 = sha key) := hs1
    clear hs1
    rintro e W3 ⟨rfl, hb3⟩
    have bel3 : Below w.heap.size w W3 := bel0.trans (hb3.mono (by omega))
    have hI3 : Hid (W3.heap[w.heap.size]? = some (.cells (bs z64) 36 (0, 0))) := (hb3.block _ (by omega)).trans hI0.out
    have hz3 : w.heap.size < W3.heap.size := by have := hb3.size; omega
    clear hb3 hI0 bel0 hz0
    go_wp2_with (refine wpList_store_row rfl 28 _ _ rfl _ _ rfl rfl 28 _ (by exact heap_alloc_new _ _) (by rw [size28, bs_size, s1l]) (by rw [bs_size, s1l]; rfl) (bs_one _) ?_)
    generalize hW4 : (W3.alloc (Obj.cells _ 28)).setRow W3.heap.size (bs s1) = W4
    have hS4 : W4.heap[W3.heap.size]? = some (.cells (bs s1) 28 (0, 0)) := by rw [← hW4]; exact setRow_heap _ _ _ _ _ _ (heap_alloc_new _ _)
    have hI4 : Hid (W4.heap[w.heap.size]? = some (.cells (bs z64) 36 (0, 0))) := by rw [← hW4]; exact (setRow_other _ _ _ _ (by omega)).trans ((heap_alloc_old _ _ (h := by omega)).trans hI3.out)
    have bel4 : Below w.heap.size w W4 := by rw [← hW4]; exact below_setRow (bel3.alloc (by omega) _) (by omega) _
    have hz4 : W3.heap.size < W4.heap.size := by rw [← hW4]; simp
    clear hW4
    have byS : Byl (.slice (some ⟨W3.heap.size, 0, none⟩) 32 32) s1 W4 := by have := byl_row hS4 (by unfold maxLen; omega); rw [s1l] at this; exact this
    have hcp3 : (Builtin.copy_ #[26, 26] 3 #[.slice (some ⟨w.heap.size, 0, none⟩) 64 64, .slice (some ⟨W3.heap.size, 0, none⟩) 32 32]).run Tryd.prog W4.drew = .ok (goInt 32) (W4.drew.setRow w.heap.size (bs (s1 ++ z64.drop 32))) := by
      have := run_copy_bs W4.drew 3 w.heap.size 36 z64 s1 hz64 (by omega) _ hI4.out byS 64 rfl
      rw [s1l, if_neg (by decide)] at this
      exact this
    have hI5 : Hid ((W4.drew.setRow w.heap.size (bs (s1 ++ z64.drop 32))).heap[w.heap.size]? = some (.cells (bs (keyB roundN startN key)) 36 (0, 0))) := by rw [hkB.out]; exact setRow_heap _ _ _ _ _ _ hI4.out
    have bel5 : Below w.heap.size w (W4.drew.setRow w.heap.size (bs (s1 ++ z64.drop 32))) := below_setRow bel4.drew (by omega) _
    have byS5 : Hid (Byl (.slice (some ⟨W3.heap.size, 0, none⟩) 32 32) s1 (W4.drew.setRow w.heap.size (bs (s1 ++ z64.drop 32)))) := by
      have := byl_row (w := W4.drew.setRow w.heap.size (bs (s1 ++ z64.drop 32))) ((setRow_other _ _ _ _ (by omega)).trans hS4) (by unfold maxLen; omega); rw [s1l] at this; exact this
    revert hcp3 hI5 bel5 byS5
    generalize W4.drew.setRow w.heap.size (bs (s1 ++ z64.drop 32)) = W5
    intro hcp3 hI5 bel5 byS5
    clear hS4 hI4 bel4 hI3 bel3 byS hz4 hz3
    have tb5 : Tb W5 := ht.below bel5 hsw
    obtain ⟨M, hM⟩ : ∃ x, x = macN roundN startN key d := ⟨_, rfl⟩
    have Ml : M.length = 32 := by rw [hM]; exact macN_len _ _ _ _
    have hM2 : macN roundN startN s1 d = M := by rw [hM, HS1.out]; unfold macN sha; rw [keyB_sum _ _ _ h64]
    have hm1 := mac_tb s1 d _ _ s1b hdb (by omega) (by omega) W5 tb5 byS5.out (hd.keep bel5.size bel5.block)
    rw [hM2] at hm1
    have HM1 : Hid (Calls Tryd.prog 16 #[.slice (some ⟨W3.heap.size, 0, none⟩) 32 32, .slice d_o d.length dc] W5 fun e w' => e = .returned (.agg (bs M)) ∧ Below W5.heap.size W5 w') := hm1
    have HM : Hid (M = macN roundN startN key d) := hM
    clear hm1 hM2 hM
    rw [put_none']
    go_region
    all_goals
      go_wp2_with fail
      refine HM1.out.mono ?_
      rintro e w6 ⟨rfl, b6⟩
      have z6 := b6.size
      have zz := bel5.size
      have bel6 : Below w.heap.size w w6 := bel5.trans (b6.mono (by omega))
      have tb6 : Tb w6 := ht.below bel6 hsw
      have hI6 : Hid (w6.heap[w.heap.size]? = some (.cells (bs (keyB roundN startN key)) 36 (0, 0))) := (b6.block _ (by have := (Array.getElem?_eq_some_iff.1 hI5.out).1; omega)).trans hI5.out
      have hm2 := mac_tb key d _ _ hky hdb (by omega) (by omega) w6 tb6 (hk.keep bel6.size bel6.block) (hd.keep bel6.size bel6.block)
      rw [← HM.out] at hm2
      have HM2 : Hid (Calls Tryd.prog 16 #[.slice ko key.length kc, .slice d_o d.length dc] w6 fun e w' => e = .returned (.agg (bs M)) ∧ Below w6.heap.size w6 w') := hm2
      clear hm2 b6 z6 zz
      go_wp2_with fail
      refine HM2.out.mono ?_
      rintro e w7 ⟨rfl, b7⟩
      have z7 := bel6.size
      have bel7 : Below w.heap.size w w7 := bel6.trans (b7.mono (by omega))
      have hI7 : Hid (w7.heap[w.heap.size]? = some (.cells (bs (keyB roundN startN key)) 36 (0, 0))) := (b7.block _ (by have := (Array.getElem?_eq_some_iff.1 hI6.out).1; omega)).trans hI6.out
      have heq := nz w7 M Ml
      clear b7 z7
      go_wp2_with fail
      refine HT.out _ _ ?_
      exact keyed_mid key d _ rfl hky hdb hkl hdl ko d_o kc dc _ _ _ _ _ _ _ _ _ _ _ _ _ _ _ _ _ _ _ w w7 ht hk hd bel7 hI7
  · have h64' : ¬ (64 : Int) < (key.length : Int) := by omega
    have hkB : Hid (keyB roundN startN key = key ++ z64.drop key.length) := by
      show _ = _
      unfold keyB
      simp only [if_neg h64]
      rw [z64, List.drop_replicate]
    go_wp2_with fail
    rename_i Q' K2 h2 K0 h0
    have HT : Hid (∀ a w, Code.wp Tryd.prog tail6b Q' a w → K2 a w) := h2
    clear h2
    generalize hW : w.alloc (Obj.cells _ 36) = W0
    have hI0 : Hid (W0.heap[w.heap.size]? = some (.cells (bs z64) 36 (0, 0))) := by rw [← hW]; exact heap_alloc_new _ _
    have bel0 : Below w.heap.size w W0 := by rw [← hW]; exact (Below.refl _ w).alloc (Nat.le_refl _) _
    have hz0 : w.heap.size < W0.heap.size := by rw [← hW]; simp
    clear hW
    obtain ⟨W1, hcp, hI1, bel1⟩ : ∃ W1, (Builtin.copy_ #[26, 26] 3 #[.slice (some ⟨w.heap.size, 0, none⟩) 64 64, .slice ko key.length kc]).run Tryd.prog W0 = .ok (goInt key.length) W1 ∧ Hid (W1.heap[w.heap.size]? = some (.cells (bs (keyB roundN startN key)) 36 (0, 0))) ∧ Below w.heap.size w W1 := by
      have hcp := run_copy_bs W0 3 w.heap.size 36 z64 key hz64 (by omega) _ hI0.out (hk.keep (by omega) bel0.block) 64 rfl
      refine ⟨_, hcp, ?_, ?_⟩
      · rw [hkB.out]
        split
        · have : key = [] := List.eq_nil_of_length_eq_zero (by assumption)
          rw [this]; exact hI0
        · exact setRow_heap _ _ _ _ _ _ hI0.out
      · split
        · exact bel0
        · exact below_setRow bel0 (by omega) _
    clear hI0 bel0 hz0
    rw [hcp]
    go_wp2_with fail
    refine HT.out _ _ ?_
    exact keyed_mid key d _ rfl hky hdb hkl hdl ko d_o kc dc _ _ _ _ _ _ _ _ _ _ _ _ _ _ _ _ _ _ _ w W1 ht hk hd bel1 hI1
end Go.Proofs.YtkppejaigodgiaaDoor
