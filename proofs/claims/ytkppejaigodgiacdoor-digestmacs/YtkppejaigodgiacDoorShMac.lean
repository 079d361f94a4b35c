import Derived.Test.YtkppejaigodgiacDoorShTb
namespace Go.Proofs.YtkppejaigodgiacDoor.Sha
open Go.RowKit
theorem put_none' (a : Act) (v : Value) : a.put none v = a := rfl
theorem size36 : (Tryd.prog.info? 43).map (·.size) = some 64 := by kernel_rfl
noncomputable def tail16 : Code := ((Tryd.f6.body.bind (fromR 6)).getD .skip)
/-- The first k bytes of kb, each with c, over base. -/
def xorTo (c : Nat) (kb base : List Nat) (k : Nat) : List Nat := (kb.take k).map (fun b => b ^^^ c) ++ base.drop k
theorem xorTo_len (c : Nat) (kb base : List Nat) (k : Nat) (h1 : kb.length = 64) (h2 : base.length = 64) (hk : k ≤ 64) : (xorTo c kb base k).length = 64 := by simp [xorTo, h1, h2]; omega
theorem xorTo_set (c : Nat) (kb base : List Nat) (k : Nat) (h1 : kb.length = 64) (h2 : base.length = 64) (hk : k < 64) : (xorTo c kb base k).set k (kb.getD k 0 ^^^ c) = xorTo c kb base (k + 1) := by
  have hl : ((kb.take k).map (fun b => b ^^^ c)).length = k := by rw [List.length_map, List.length_take, h1]; omega
  have hd : base.drop k = base[k]'(by omega) :: base.drop (k + 1) := List.drop_eq_getElem_cons (by omega)
  unfold xorTo
  rw [List.set_append_right _ _ (by omega), hl, Nat.sub_self, hd, List.set_cons_zero, List.take_succ_eq_append_getElem (by omega), List.map_append]
  have : kb.getD k 0 = kb[k]'(by omega) := by simp [List.getD, show k < kb.length by omega]
  rw [this]
  simp
theorem xorTo_zero (c : Nat) (kb base : List Nat) : xorTo c kb base 0 = base := by simp [xorTo]
theorem xorTo_all (c : Nat) (kb base : List Nat) (h1 : kb.length = 64) (h2 : base.length = 64) : xorTo c kb base 64 = kb.map (fun b => b ^^^ c) := by
  unfold xorTo; rw [List.take_of_length_le (by omega), List.drop_of_length_le (by omega), List.append_nil]
theorem xor_byt {kb : List Nat} (h : Byt kb) (c : Nat) (hc : c < 256) : Byt (kb.map (fun b => b ^^^ c)) := by
  intro x hx
  obtain ⟨b, hb, rfl⟩ := List.mem_map.1 hx
  exact Nat.xor_lt_two_pow (n := 8) (h b hb) hc
/-- The store of a whole array, kept shut. -/
theorem to28s (p v : Value) : Instr.storeAt 25 p v = storeR 25 p v := rfl
theorem run_storeR28 (w : World) (g : Nat) (old l : List Nat) (hg : w.heap[g]? = some (.cells (bs old) 25 (0, 0))) (h1 : old.length = 32) (h2 : l.length = 32) : (storeR 25 (.pointer (some ⟨g, 0, none⟩)) (.agg (bs l))).run Tryd.prog w = .ok () (w.setRow g (bs l)) := by
  unfold storeR
  simp only [Instr.storeAt, Instr.sureAddr, Sem.run_bind, Sem.run_pure, Result.andThen_ok, run_storeVar_row w g 25 25 (bs old) (bs l) hg (by rw [size28, bs_size, h2]) (by rw [bs_size, bs_size, h1, h2]) (bs_one _)]
/-- The HMAC, from the key in its block on. -/
def macT (ks sn kb d : List Nat) : List Nat := shaN ks sn (kb.map (fun b => b ^^^ 92) ++ shaN ks sn (kb.map (fun b => b ^^^ 54) ++ d))
theorem byl_row {l : List Nat} {g t : Nat} {w : World} (h : w.heap[g]? = some (.cells (bs l) t (0, 0))) (hl : l.length ≤ maxLen) : Byl (.slice (some ⟨g, 0, none⟩) l.length l.length) l w :=
  .inr ⟨g, 0, l.length, rfl, Nat.le_refl _, hl, (Array.getElem?_eq_some_iff.1 h).1, fun j hj => by rw [Nat.zero_add, cell_of_row w _ _ _ _ _ h, bs_get _ _ hj]⟩
theorem two_get {α : Type} {P : α → Prop} {a b : α} (ha : P a) (hb : P b) (j : Nat) (h : j < [a, b].length) : P ([a, b][j]'h) := by
  match j, h with
  | 0, _ => exact ha
  | 1, _ => exact hb
attribute [local go_sem ↓] to28s
set_option maxRecDepth 100000 in
set_option maxHeartbeats 3200000 in
theorem mac_tail (ks sn : List Nat) (hm : MixOK ks) (hsn : sn.length = 8) (hsnw : Wrd sn) (kb d : List Nat) (hkl : kb.length = 64) (hkb : Byt kb) (hdb : Byt d) (hdl : 64 + d.length ≤ 1152921504606846976) (d_o : Option Addr) (dc : Nat) (kv v7 v11 v12 v13 v14 v15 v16 v17 v18 v19 v20 v21 : Value) (w W1 : World) (hg1 : 3 < w.heap.size)
    (hd : Byl (.slice d_o d.length dc) d w) (bel1 : Below w.heap.size w W1) (hs1 : w.heap.size + 3 ≤ W1.heap.size)
    (hR : Hid (W1.heap[w.heap.size]? = some (.cells (bs z32) 25 (0, 0)))) (hI : Hid (W1.heap[w.heap.size + 1]? = some (.cells (bs kb) 43 (0, 0)))) (hO : Hid (W1.heap[w.heap.size + 1 + 1]? = some (.cells (bs z64) 43 (0, 0))))
    (hS : Hid (∀ j, j < 8 → w.cell? ⟨2, j, none⟩ = some (.int .u32 ((sn.getD j 0 : Nat) : Int)))) (hK : Hid (∀ j, j < 64 → w.cell? ⟨3, j, none⟩ = some (.int .u32 ((ks.getD j 0 : Nat) : Int)))) :
    Code.wp Tryd.prog tail16 (bodyPost Tryd.prog Tryd.f6 (fun e w' => e = .returned (.agg (bs (macT ks sn kb d))) ∧ Below w.heap.size w w'))
      ⟨#[kv, .slice d_o d.length dc, undef, undef, .pointer (some ⟨w.heap.size, 0, none⟩), .pointer (some ⟨w.heap.size + 1, 0, none⟩), .pointer (some ⟨w.heap.size + 1 + 1, 0, none⟩), v7, undef, undef, undef, v11, v12, v13, v14, v15, v16, v17, v18, v19, v20, v21, undef, undef, undef, undef, undef, undef, undef, undef, undef, undef, undef, undef, undef, undef, undef, undef, undef, undef, undef, undef, undef, undef], []⟩ W1 := by
  conv => arg 2; whnf
  go_wp2_with (refine wpList_load_row rfl 43 _ rfl _ rfl 43 (bs kb) (0, 0) _ (by exact hI.out) Tryd.underlying43 rfl (by rw [size36, bs_size, hkl]) ?_)
  go_loopw [23] (fun i wr => ∃ k : Nat, i = .int .i64 (k : Int) ∧ k ≤ 64 ∧ Hid (wr.heap[w.heap.size]? = some (.cells (bs z32) 25 (0, 0))) ∧ Hid (wr.heap[w.heap.size + 1]? = some (.cells (bs (xorTo 54 kb kb k)) 43 (0, 0))) ∧ Hid (wr.heap[w.heap.size + 1 + 1]? = some (.cells (bs (xorTo 92 kb z64 k)) 43 (0, 0))) ∧ Below w.heap.size w wr ∧ Hid (w.heap.size + 3 ≤ wr.heap.size)) (fun i _ => 64 - (intOf i).toNat)
  case atStart =>
    exact ⟨0, rfl, by omega, hR, by rw [xorTo_zero]; exact hI, by rw [xorTo_zero]; exact hO, bel1, hs1⟩
  case round =>
    clear hR hI hO bel1 hs1
    obtain ⟨k, rfl, hk, hR, hI, hO, bel, hs⟩ := hrel
    by_cases hlt : k < 64
    · obtain ⟨x, hx⟩ : ∃ x, x = kb.getD k 0 := ⟨_, rfl⟩
      have hx256 : x < 256 := by rw [hx]; exact getD_lt hkb _
      have hk0 : (0 : Int) ≤ (k : Int) := by omega
      have hk1 : (k : Int) < 64 := by omega
      have hix := fun (w : World) => run_index_bs (P := Tryd.prog) w Tryd.underlying43 Tryd.underlying5 size5 kb hkl k hlt
      rw [← hx] at hix
      have HX : Hid (x = kb.getD k 0) := hx
      clear hx
      have hz : z64.length = 64 := by simp [z64]
      obtain ⟨y1, cI⟩ : ∃ y, wr.cell? ⟨w.heap.size + 1, k, none⟩ = some y := by rw [cell_of_row wr _ _ _ _ _ hI.out]; exact ⟨_, bs_get _ _ (by rw [xorTo_len _ _ _ _ hkl hkl hk]; exact hlt)⟩
      obtain ⟨y2, cO⟩ : ∃ y, wr.cell? ⟨w.heap.size + 1 + 1, k, none⟩ = some y := by rw [cell_of_row wr _ _ _ _ _ hO.out]; exact ⟨_, bs_get _ _ (by rw [xorTo_len _ _ _ _ hkl hz hk]; exact hlt)⟩
      have fI := frozen_of_row wr _ k _ _ hI.out
      have fO := frozen_of_row wr _ k _ _ hO.out
      have x1 : bits BinOp.xor IntKind.u8 (x : Int) 54 = ((x ^^^ 54 : Nat) : Int) := u8_xor_nat x 54 hx256 (by decide)
      have x2 : bits BinOp.xor IntKind.u8 (x : Int) 92 = ((x ^^^ 92 : Nat) : Int) := u8_xor_nat x 92 hx256 (by decide)
      have hne : w.heap.size + 1 + 1 ≠ w.heap.size + 1 := by omega
      go_wp2
      refine ⟨⟨k + 1, by go_num, by omega, ?_, ?_, ?_, ?_, ?_⟩, by simp [intOf]; omega⟩
      · exact (heap_setCell_other _ _ _ _ (by show w.heap.size ≠ w.heap.size + 1 + 1; omega)).trans ((heap_setCell_other _ _ _ _ (by show w.heap.size ≠ w.heap.size + 1; omega)).trans hR.out)
      · refine (heap_setCell_other _ _ _ _ (by show w.heap.size + 1 ≠ w.heap.size + 1 + 1; omega)).trans ((heap_setCell_same _ _ _ _ _ _ hI.out).trans ?_)
        rw [bs_set, HX.out, xorTo_set _ _ _ _ hkl hkl hlt]
      · refine (heap_setCell_same _ _ _ _ _ _ ((heap_setCell_other _ _ _ _ (by show w.heap.size + 1 + 1 ≠ w.heap.size + 1; omega)).trans hO.out)).trans ?_
        rw [bs_set, HX.out, xorTo_set _ _ _ _ hkl hz hlt]
      · exact (bel.setCell (by simp) _).setCell (by simp; omega) _
      · show _ ≤ _
        have := hs.out
        simpa [World.setCell] using this
    · have hk64 : k = 64 := by omega
      subst hk64
      have hz : z64.length = 64 := by simp [z64]
      have hI2 : Hid (wr.heap[w.heap.size + 1]? = some (.cells (bs (kb.map (fun b => b ^^^ 54))) 43 (0, 0))) := by have := hI.out; rw [xorTo_all _ _ _ hkl hkl] at this; exact this
      have hO2 : Hid (wr.heap[w.heap.size + 1 + 1]? = some (.cells (bs (kb.map (fun b => b ^^^ 92))) 43 (0, 0))) := by have := hO.out; rw [xorTo_all _ _ _ hkl hz] at this; exact this
      clear hI hO
      obtain ⟨ib, hib⟩ : ∃ x, x = kb.map (fun b => b ^^^ 54) := ⟨_, rfl⟩
      obtain ⟨ob, hob⟩ : ∃ x, x = kb.map (fun b => b ^^^ 92) := ⟨_, rfl⟩
      rw [← hib] at hI2
      rw [← hob] at hO2
      have ibl : ib.length = 64 := by rw [hib, List.length_map, hkl]
      have obl : ob.length = 64 := by rw [hob, List.length_map, hkl]
      have ibb : Byt ib := by rw [hib]; exact xor_byt hkb 54 (by decide)
      have obb : Byt ob := by rw [hob]; exact xor_byt hkb 92 (by decide)
      have HIB : Hid (ib = kb.map (fun b => b ^^^ 54)) := hib
      have HOB : Hid (ob = kb.map (fun b => b ^^^ 92)) := hob
      clear hib hob
      go_wp2_with fail
      have hSr : ∀ j, j < 8 → wr.cell? ⟨2, j, none⟩ = some (.int .u32 ((sn.getD j 0 : Nat) : Int)) := fun j hj => (bel.cell (by simp; omega)).trans (hS.out j hj)
      have hKr : ∀ j, j < 64 → wr.cell? ⟨3, j, none⟩ = some (.int .u32 ((ks.getD j 0 : Nat) : Int)) := fun j hj => (bel.cell (by simpa using hg1)).trans (hK.out j hj)
      have hsr := hs.out
      have hb0 : Below wr.heap.size wr (wr.alloc (Obj.cells #[Value.slice (some ⟨w.heap.size + 1, 0, none⟩) 64 64, Value.slice d_o d.length dc] 22)) := (Below.refl _ _).alloc (Nat.le_refl _) _
      have hrP : (wr.alloc (Obj.cells #[Value.slice (some ⟨w.heap.size + 1, 0, none⟩) 64 64, Value.slice d_o d.length dc] 22)).heap[wr.heap.size]? = some (.cells #[Value.slice (some ⟨w.heap.size + 1, 0, none⟩) 64 64, Value.slice d_o d.length dc] 22 (0, 0)) := heap_alloc_new _ _
      have hzs : (wr.alloc (Obj.cells #[Value.slice (some ⟨w.heap.size + 1, 0, none⟩) 64 64, Value.slice d_o d.length dc] 22)).heap.size = wr.heap.size + 1 := by simp
      revert hb0 hrP hzs
      generalize wr.alloc (Obj.cells #[Value.slice (some ⟨w.heap.size + 1, 0, none⟩) 64 64, Value.slice d_o d.length dc] 22) = W2
      intro hb0 hrP hzs
      have byI : Byl (.slice (some ⟨w.heap.size + 1, 0, none⟩) 64 64) ib wr := by have := byl_row hI2.out (by unfold maxLen; omega); rw [ibl] at this; exact this
      have byD : Byl (.slice d_o d.length dc) d wr := hd.keep (by omega) bel.block
      have hp := parts_any ks sn hm hsn hsnw [ib, d] [.slice (some ⟨w.heap.size + 1, 0, none⟩) 64 64, .slice d_o d.length dc] rfl (by simp [ibl]; omega) (fun x hx => by
          rcases List.mem_cons.1 hx with rfl | hx
          · exact ibb
          · rw [List.mem_singleton.1 hx]; exact hdb) wr.heap.size 2 (by simp) (by decide) W2 (by omega) (by omega)
        (fun j h => by
          rw [cell_of_row W2 _ _ _ _ _ hrP]
          match j, h with
          | 0, _ => rfl
          | 1, _ => rfl)
        (fun j h1 h2 => by
          match j, h1, h2 with
          | 0, _, _ => exact byI.keep (by omega) hb0.block
          | 1, _, _ => exact byD.keep (by omega) hb0.block)
        (fun j hj => (hb0.cell (by simp; omega)).trans (hSr j hj)) (fun j hj => (hb0.cell (by simp; omega)).trans (hKr j hj))
      have hfl : [ib, d].flatten = ib ++ d := by simp
      rw [hfl] at hp
      refine hp.mono ?_
      clear hp hfl
      obtain ⟨s1, hs1⟩ : ∃ x, x = shaN ks sn (ib ++ d) := ⟨_, rfl⟩
      rw [← hs1]
      have s1l : s1.length = 32 := by rw [hs1]; exact shaN_len _ _ _
      have s1b : Byt s1 := by rw [hs1]; exact shaN_byt _ _ _
      have HS1 : Hid (s1 = shaN ks sn (ib ++ d)) := hs1
      clear hs1
      rintro e W3 ⟨rfl, hb3⟩
      have bel3 : Below w.heap.size w W3 := (bel.trans (hb0.mono (by omega))).trans (hb3.mono (by omega))
      have hR3 : Hid (W3.heap[w.heap.size]? = some (.cells (bs z32) 25 (0, 0))) := (hb3.block _ (by omega)).trans ((hb0.block _ (by omega)).trans hR.out)
      have hO3 : Hid (W3.heap[w.heap.size + 1 + 1]? = some (.cells (bs ob) 43 (0, 0))) := (hb3.block _ (by omega)).trans ((hb0.block _ (by omega)).trans hO2.out)
      have hz3 : wr.heap.size + 1 ≤ W3.heap.size := by have := hb3.size; omega
      go_wp2_with (refine wpList_store_row rfl 25 _ _ rfl _ _ rfl rfl 25 _ (by exact heap_alloc_new _ _) (by rw [size28, bs_size, s1l]) (by rw [bs_size, s1l]; rfl) (bs_one _) ?_)
      generalize hW4 : (W3.alloc (Obj.cells _ 25)).setRow W3.heap.size (bs s1) = W4
      have hS4 : Hid (W4.heap[W3.heap.size]? = some (.cells (bs s1) 25 (0, 0))) := by rw [← hW4]; exact setRow_heap _ _ _ _ _ _ (heap_alloc_new _ _)
      have hO4 : Hid (W4.heap[w.heap.size + 1 + 1]? = some (.cells (bs ob) 43 (0, 0))) := by rw [← hW4]; exact (setRow_other _ _ _ _ (by omega)).trans ((heap_alloc_old _ _ (h := by omega)).trans hO3.out)
      have hR4 : Hid (W4.heap[w.heap.size]? = some (.cells (bs z32) 25 (0, 0))) := by rw [← hW4]; exact (setRow_other _ _ _ _ (by omega)).trans ((heap_alloc_old _ _ (h := by omega)).trans hR3.out)
      have bel4 : Below w.heap.size w W4 := by rw [← hW4]; exact below_setRow (bel3.alloc (by omega) _) (by omega) _
      have hz4 : W4.heap.size = W3.heap.size + 1 := by rw [← hW4]; simp
      clear hW4
      obtain ⟨s2, hs2⟩ : ∃ x, x = shaN ks sn (ob ++ s1) := ⟨_, rfl⟩
      have s2l : s2.length = 32 := by rw [hs2]; exact shaN_len _ _ _
      have HC : Hid (∀ W', W'.heap = (W4.alloc (Obj.cells #[Value.slice (some ⟨w.heap.size + 1 + 1, 0, none⟩) 64 64, Value.slice (some ⟨W3.heap.size, 0, none⟩) 32 32] 22)).heap → Calls Tryd.prog 23 #[Value.slice (some ⟨W4.heap.size, 0, none⟩) 2 2] W' fun e w' => e = .returned (.agg (bs s2)) ∧ Below W'.heap.size W' w' ∧ (storeR 25 (.pointer (some ⟨w.heap.size, 0, none⟩)) (.agg (bs s2))).run Tryd.prog w' = .ok () (w'.setRow w.heap.size (bs s2)) ∧ (storeR 25 (.pointer (some ⟨w.heap.size, 0, none⟩)) (.agg (bs s2))).run Tryd.prog w'.drew = .ok () (w'.drew.setRow w.heap.size (bs s2)) ∧ Hid (w'.heap[w.heap.size]? = some (.cells (bs z32) 25 (0, 0)))) := by
        intro W' hW'
        have hsz : W'.heap.size = W4.heap.size + 1 := by rw [hW']; simp
        have hold : ∀ j, j < W4.heap.size → W'.heap[j]? = W4.heap[j]? := fun j hj => by rw [hW']; exact heap_alloc_old _ _ (h := hj)
        have hnew : W'.heap[W4.heap.size]? = some (.cells #[Value.slice (some ⟨w.heap.size + 1 + 1, 0, none⟩) 64 64, Value.slice (some ⟨W3.heap.size, 0, none⟩) 32 32] 22 (0, 0)) := by rw [hW']; exact heap_alloc_new _ _
        have byO : Byl (.slice (some ⟨w.heap.size + 1 + 1, 0, none⟩) 64 64) ob W4 := by have := byl_row hO4.out (by unfold maxLen; omega); rw [obl] at this; exact this
        have byS : Byl (.slice (some ⟨W3.heap.size, 0, none⟩) 32 32) s1 W4 := by have := byl_row hS4.out (by unfold maxLen; omega); rw [s1l] at this; exact this
        have hp := parts_any ks sn hm hsn hsnw [ob, s1] [.slice (some ⟨w.heap.size + 1 + 1, 0, none⟩) 64 64, .slice (some ⟨W3.heap.size, 0, none⟩) 32 32] rfl (by simp [obl, s1l]) (fun x hx => by
            rcases List.mem_cons.1 hx with rfl | hx
            · exact obb
            · rw [List.mem_singleton.1 hx]; exact s1b) W4.heap.size 2 (by simp) (by decide) W' (by omega) (by omega)
          (fun j h => by
            rw [cell_of_row W' _ _ _ _ _ hnew]
            match j, h with
            | 0, _ => rfl
            | 1, _ => rfl)
          (fun j h1 h2 => by
            match j, h1, h2 with
            | 0, _, _ => exact byO.keep (by omega) hold
            | 1, _, _ => exact byS.keep (by omega) hold)
          (fun j hj => (World.cell?_of_block (w := W4) (hold 2 (by omega))).trans ((bel4.cell (by simp; omega)).trans (hS.out j hj))) (fun j hj => (World.cell?_of_block (w := W4) (hold 3 (by omega))).trans ((bel4.cell (by simp; omega)).trans (hK.out j hj)))
        have hfl : [ob, s1].flatten = ob ++ s1 := by simp
        rw [hfl, ← hs2] at hp
        refine hp.mono fun e w' ⟨he, hb⟩ => ⟨he, hb, ?_, ?_, (hb.block _ (by omega)).trans ((hold _ (by omega)).trans hR4.out)⟩
        · exact run_storeR28 w' w.heap.size z32 s2 ((hb.block _ (by omega)).trans ((hold _ (by omega)).trans hR4.out)) rfl s2l
        · exact run_storeR28 w'.drew w.heap.size z32 s2 ((hb.block _ (by omega)).trans ((hold _ (by omega)).trans hR4.out)) rfl s2l
      have HS2 : Hid (s2 = shaN ks sn (ob ++ s1)) := hs2
      have HZ4 : Hid (W4.heap.size = W3.heap.size + 1) := hz4
      have hw4 : w.heap.size < W4.heap.size := by omega
      clear hz4 hs2 hb0 hrP hzs byI byD hb3 hR3 hO3 bel3 hSr hKr hI2 hO2 hR bel
      rw [put_none']
      go_region_with ((go_at_call 23; refine (HC.out _ (by rfl)).mono ?_; rintro e w' ⟨rfl, hb', hst1, hst2, hrw⟩))
      all_goals
        go_wp2_with fail
        have hres : (w'.setRow w.heap.size (bs s2)).heap[w.heap.size]? = some (.cells (bs s2) 25 (0, 0)) := setRow_heap _ _ _ _ _ _ hrw.out
        refine bodyPost_ret (v := .agg (bs s2)) (results_cell_row rfl _ _ w.heap.size 25 _ (0, 0) _ rfl hres Tryd.underlying25 rfl (by rw [size28, bs_size, s2l])) rfl ⟨?_, ?_⟩
        · rw [HS2.out, HS1.out, HOB.out, HIB.out]; rfl
        · exact below_setRow (((bel4.alloc (by omega) _).drew).trans (hb'.mono (by simp; omega))) (Nat.le_refl _) _
/-- The key in its block. -/
def keyB (ks sn key : List Nat) : List Nat := let k := if 64 < key.length then shaN ks sn key else key; k ++ List.replicate (64 - k.length) 0
def macN (ks sn key d : List Nat) : List Nat := macT ks sn (keyB ks sn key) d
theorem keyB_len (ks sn key : List Nat) : (keyB ks sn key).length = 64 := by
  unfold keyB
  split
  · simp [shaN_len]
  · simp; omega
theorem keyB_byt (ks sn key : List Nat) (h : Byt key) : Byt (keyB ks sn key) := by
  unfold keyB
  intro x hx
  rcases List.mem_append.1 hx with h' | h'
  · split at h'
    · exact shaN_byt _ _ _ x h'
    · exact h x h'
  · rw [List.eq_of_mem_replicate h']; decide
theorem macN_len (ks sn key d : List Nat) : (macN ks sn key d).length = 32 := by unfold macN macT; exact shaN_len _ _ _
theorem bs_copy (l e : List Nat) : ((bs l).toList.take 0 ++ (e.map fun (x : Nat) => Value.int .u8 (x : Int)) ++ (bs l).toList.drop (0 + e.length)).toArray = bs (e ++ l.drop e.length) := by
  simp [bs, List.map_drop]
theorem run_copy_bs (W : World) (ty g t : Nat) (l e : List Nat) (hl : l.length = 64) (he : e.length ≤ 64) (v : Value) (hrow : W.heap[g]? = some (.cells (bs l) t (0, 0))) (hv : Byl v e W) (n : Nat) (hn : n = 64) :
    (Builtin.copy_ #[22, 22] ty #[.slice (some ⟨g, 0, none⟩) n n, v]).run Tryd.prog W = .ok (goInt e.length) (if e.length = 0 then W else W.setRow g (bs (e ++ l.drop e.length))) := by
  subst hn
  rcases hv with ⟨rfl, rfl⟩ | ⟨b, off, cap, rfl, hc1, hc2, hbl, hcell⟩
  · exact run_copy_nil (P := Tryd.prog) W 22 22 ty 5 ⟨g, 0, none⟩ 64 64 Tryd.underlying22 (by kernel_rfl)
  · by_cases h0 : e.length = 0
    · rw [if_pos h0, h0]
      exact run_copy_none (P := Tryd.prog) W 22 22 ty 5 _ _ 64 64 0 cap Tryd.underlying22 size5 (by decide)
    rw [if_neg h0]
    have hlen : (e.map fun (x : Nat) => Value.int .u8 (x : Int)).length = e.length := by rw [List.length_map]
    have hc := run_copy_row (P := Tryd.prog) W 22 22 ty 5 g 0 64 64 ⟨b, off, none⟩ e.length cap _ t (e.map fun (x : Nat) => Value.int .u8 (x : Int)) Tryd.underlying22 size5 hrow (by rw [hlen]; exact (Nat.min_eq_left he).symm) (fun j v hj => ?_) (by rw [hlen, bs_size]; omega) (fun v hv => by obtain ⟨x, _, rfl⟩ := List.mem_map.1 hv; rfl)
    · rw [hlen, bs_copy l e] at hc
      exact hc
    · have hj2 : j < e.length := by rw [← hlen]; exact (List.getElem?_eq_some_iff.1 hj).1
      have ev : v = Value.int .u8 ((e.getD j 0 : Nat) : Int) := by
        simp only [List.getElem?_map] at hj
        rw [List.getElem?_eq_getElem hj2] at hj
        simp only [Option.map_some, Option.some.injEq] at hj
        rw [← hj]
        simp [List.getD, hj2]
      rw [ev, Addr.add_mid]
      exact hcell j hj2
attribute [local go_sem ↓] to28s
set_option maxRecDepth 100000 in
set_option maxHeartbeats 3200000 in
/-- Mac. -/
theorem mac_any (ks sn : List Nat) (hm : MixOK ks) (hsn : sn.length = 8) (hsnw : Wrd sn) (key d : List Nat) (kv dv : Value) (hkb : Byt key) (hdb : Byt d) (hkl : key.length ≤ 1152921504606846976) (hdl : 64 + d.length ≤ 1152921504606846976) (w : World) (hg1 : 3 < w.heap.size) (hk : Byl kv key w) (hd : Byl dv d w)
    (hS : Hid (∀ j, j < 8 → w.cell? ⟨2, j, none⟩ = some (.int .u32 ((sn.getD j 0 : Nat) : Int)))) (hK : Hid (∀ j, j < 64 → w.cell? ⟨3, j, none⟩ = some (.int .u32 ((ks.getD j 0 : Nat) : Int)))) :
    Calls Tryd.prog 6 #[kv, dv] w fun e w' => e = .returned (.agg (bs (macN ks sn key d))) ∧ Below w.heap.size w w' := by
  obtain ⟨ko, kc, rfl⟩ := hk.shape
  obtain ⟨d_o, dc, rfl⟩ := hd.shape
  have hal36 : Tryd.prog.arrayLen 43 = 64 := by kernel_rfl
  have hal28 : Tryd.prog.arrayLen 25 = 32 := by kernel_rfl
  have kbl := keyB_len ks sn key
  have kbb := keyB_byt ks sn key hkb
  have hz64 : z64.length = 64 := by simp [z64]
  go_enter Tryd.func6, Tryd.ntmps6
  by_cases h64 : 64 < key.length
  · have h64' : (64 : Int) < (key.length : Int) := by omega
    have hkB : Hid (keyB ks sn key = shaN ks sn key ++ z64.drop 32) := by
      show _ = _
      unfold keyB
      simp only [if_pos h64, shaN_len]
      rfl
    go_wp2_with fail
    rename_i Q' K2 h2 K1 h1 K0 h0
    have HT : Hid (∀ a w, Code.wp Tryd.prog tail16 Q' a w → K2 a w) := h2
    clear h2
    generalize hW : ((w.alloc (Obj.cells _ 25)).alloc (Obj.cells _ 43)).alloc (Obj.cells _ 43) = W0
    have hR0 : Hid (W0.heap[w.heap.size]? = some (.cells (bs z32) 25 (0, 0))) := by rw [← hW]; exact al3_0 _ _ _ _
    have hI0 : Hid (W0.heap[w.heap.size + 1]? = some (.cells (bs z64) 43 (0, 0))) := by rw [← hW]; exact al3_1 _ _ _ _
    have hO0 : Hid (W0.heap[w.heap.size + 1 + 1]? = some (.cells (bs z64) 43 (0, 0))) := by rw [← hW]; exact al3_2 _ _ _ _
    have bel0 : Below w.heap.size w W0 := by rw [← hW]; exact (((Below.refl _ w).alloc (Nat.le_refl _) _).alloc (by simp) _).alloc (by simp; omega) _
    have hz0 : W0.heap.size = w.heap.size + 3 := by rw [← hW]; simp
    clear hW
    have hof := of_any ks sn hm hsn hsnw key (.slice ko key.length kc) hkl hkb W0 (by omega) (hk.keep (by omega) bel0.block) (fun j hj => (bel0.cell (by simp; omega)).trans (hS.out j hj)) (fun j hj => (bel0.cell (by simpa using hg1)).trans (hK.out j hj))
    refine hof.mono ?_
    clear hof
    obtain ⟨s1, hs1⟩ : ∃ x, x = shaN ks sn key := ⟨_, rfl⟩
    rw [← hs1] at hkB ⊢
    have s1l : s1.length = 32 := by rw [hs1]; exact shaN_len _ _ _
    clear hs1
    rintro e W3 ⟨rfl, hb3⟩
    have bel3 : Below w.heap.size w W3 := bel0.trans (hb3.mono (by omega))
    have hR3 : Hid (W3.heap[w.heap.size]? = some (.cells (bs z32) 25 (0, 0))) := (hb3.block _ (by omega)).trans hR0.out
    have hI3 : Hid (W3.heap[w.heap.size + 1]? = some (.cells (bs z64) 43 (0, 0))) := (hb3.block _ (by omega)).trans hI0.out
    have hO3 : Hid (W3.heap[w.heap.size + 1 + 1]? = some (.cells (bs z64) 43 (0, 0))) := (hb3.block _ (by omega)).trans hO0.out
    have hz3 : w.heap.size + 3 ≤ W3.heap.size := by have := hb3.size; omega
    clear hb3 hR0 hI0 hO0 bel0 hz0
    go_wp2_with (refine wpList_store_row rfl 25 _ _ rfl _ _ rfl rfl 25 _ (by exact heap_alloc_new _ _) (by rw [size28, bs_size, s1l]) (by rw [bs_size, s1l]; rfl) (bs_one _) ?_)
    generalize hW4 : (W3.alloc (Obj.cells _ 25)).setRow W3.heap.size (bs s1) = W4
    have hS4 : W4.heap[W3.heap.size]? = some (.cells (bs s1) 25 (0, 0)) := by rw [← hW4]; exact setRow_heap _ _ _ _ _ _ (heap_alloc_new _ _)
    have hI4 : Hid (W4.heap[w.heap.size + 1]? = some (.cells (bs z64) 43 (0, 0))) := by rw [← hW4]; exact (setRow_other _ _ _ _ (by omega)).trans ((heap_alloc_old _ _ (h := by omega)).trans hI3.out)
    have hO4 : Hid (W4.heap[w.heap.size + 1 + 1]? = some (.cells (bs z64) 43 (0, 0))) := by rw [← hW4]; exact (setRow_other _ _ _ _ (by omega)).trans ((heap_alloc_old _ _ (h := by omega)).trans hO3.out)
    have hR4 : Hid (W4.heap[w.heap.size]? = some (.cells (bs z32) 25 (0, 0))) := by rw [← hW4]; exact (setRow_other _ _ _ _ (by omega)).trans ((heap_alloc_old _ _ (h := by omega)).trans hR3.out)
    have bel4 : Below w.heap.size w W4 := by rw [← hW4]; exact below_setRow (bel3.alloc (by omega) _) (by omega) _
    have hz4 : W4.heap.size = W3.heap.size + 1 := by rw [← hW4]; simp
    clear hW4
    have byS : Byl (.slice (some ⟨W3.heap.size, 0, none⟩) 32 32) s1 W4 := by have := byl_row hS4 (by unfold maxLen; omega); rw [s1l] at this; exact this
    have hcp : ∀ ty, (Builtin.copy_ #[22, 22] ty #[.slice (some ⟨w.heap.size + 1, 0, none⟩) 64 64, .slice (some ⟨W3.heap.size, 0, none⟩) 32 32]).run Tryd.prog W4.drew = .ok (goInt 32) (W4.drew.setRow (w.heap.size + 1) (bs (s1 ++ z64.drop 32))) := by
      intro ty
      have := run_copy_bs W4.drew ty (w.heap.size + 1) 43 z64 s1 hz64 (by omega) _ hI4.out byS 64 rfl
      rw [s1l, if_neg (by decide)] at this
      exact this
    have hcp3 := hcp 3
    have hI5 : Hid ((W4.drew.setRow (w.heap.size + 1) (bs (s1 ++ z64.drop 32))).heap[w.heap.size + 1]? = some (.cells (bs (keyB ks sn key)) 43 (0, 0))) := by rw [hkB.out]; exact setRow_heap _ _ _ _ _ _ hI4.out
    have hO5 : Hid ((W4.drew.setRow (w.heap.size + 1) (bs (s1 ++ z64.drop 32))).heap[w.heap.size + 1 + 1]? = some (.cells (bs z64) 43 (0, 0))) := (setRow_other _ _ _ _ (by omega)).trans hO4.out
    have hR5 : Hid ((W4.drew.setRow (w.heap.size + 1) (bs (s1 ++ z64.drop 32))).heap[w.heap.size]? = some (.cells (bs z32) 25 (0, 0))) := (setRow_other _ _ _ _ (by omega)).trans hR4.out
    have bel5 : Below w.heap.size w (W4.drew.setRow (w.heap.size + 1) (bs (s1 ++ z64.drop 32))) := below_setRow bel4.drew (by omega) _
    have hs5 : w.heap.size + 3 ≤ (W4.drew.setRow (w.heap.size + 1) (bs (s1 ++ z64.drop 32))).heap.size := by simp; omega
    revert hcp3 hI5 hO5 hR5 bel5 hs5
    generalize W4.drew.setRow (w.heap.size + 1) (bs (s1 ++ z64.drop 32)) = W5
    intro hcp3 hI5 hO5 hR5 bel5 hs5
    clear hcp hz4 hS4 hI4 hO4 hR4 bel4 hR3 hI3 hO3 bel3 byS
    rw [put_none']
    go_region
    all_goals
      go_wp2_with fail
      refine HT.out _ _ ?_
      exact mac_tail ks sn hm hsn hsnw (keyB ks sn key) d kbl kbb hdb hdl d_o dc _ _ _ _ _ _ _ _ _ _ _ _ _ w W5 hg1 hd bel5 hs5 hR5 hI5 hO5 hS hK
  · have h64' : ¬ (64 : Int) < (key.length : Int) := by omega
    have hkB : Hid (keyB ks sn key = key ++ z64.drop key.length) := by
      show _ = _
      unfold keyB
      simp only [if_neg h64]
      rw [z64, List.drop_replicate]
    go_wp2_with fail
    rename_i Q' K2 h2 K0 h0
    have HT : Hid (∀ a w, Code.wp Tryd.prog tail16 Q' a w → K2 a w) := h2
    clear h2
    generalize hW : ((w.alloc (Obj.cells _ 25)).alloc (Obj.cells _ 43)).alloc (Obj.cells _ 43) = W0
    have hR0 : Hid (W0.heap[w.heap.size]? = some (.cells (bs z32) 25 (0, 0))) := by rw [← hW]; exact al3_0 _ _ _ _
    have hI0 : Hid (W0.heap[w.heap.size + 1]? = some (.cells (bs z64) 43 (0, 0))) := by rw [← hW]; exact al3_1 _ _ _ _
    have hO0 : Hid (W0.heap[w.heap.size + 1 + 1]? = some (.cells (bs z64) 43 (0, 0))) := by rw [← hW]; exact al3_2 _ _ _ _
    have bel0 : Below w.heap.size w W0 := by rw [← hW]; exact (((Below.refl _ w).alloc (Nat.le_refl _) _).alloc (by simp) _).alloc (by simp; omega) _
    have hz0 : W0.heap.size = w.heap.size + 3 := by rw [← hW]; simp
    clear hW
    obtain ⟨W1, hcp, hR1, hI1, hO1, bel1, hs1⟩ : ∃ W1, (∀ ty, (Builtin.copy_ #[22, 22] ty #[.slice (some ⟨w.heap.size + 1, 0, none⟩) 64 64, .slice ko key.length kc]).run Tryd.prog W0 = .ok (goInt key.length) W1) ∧ Hid (W1.heap[w.heap.size]? = some (.cells (bs z32) 25 (0, 0))) ∧ Hid (W1.heap[w.heap.size + 1]? = some (.cells (bs (keyB ks sn key)) 43 (0, 0))) ∧ Hid (W1.heap[w.heap.size + 1 + 1]? = some (.cells (bs z64) 43 (0, 0))) ∧ Below w.heap.size w W1 ∧ w.heap.size + 3 ≤ W1.heap.size := by
      have hcp := fun ty => run_copy_bs W0 ty (w.heap.size + 1) 43 z64 key hz64 (by omega) _ hI0.out (hk.keep (by omega) bel0.block) 64 rfl
      refine ⟨_, hcp, ?_, ?_, ?_, ?_, ?_⟩
      · split
        · exact hR0
        · exact (setRow_other _ _ _ _ (by omega)).trans hR0.out
      · rw [hkB.out]
        split
        · have : key = [] := List.eq_nil_of_length_eq_zero (by assumption)
          rw [this]; exact hI0
        · exact setRow_heap _ _ _ _ _ _ hI0.out
      · split
        · exact hO0
        · exact (setRow_other _ _ _ _ (by omega)).trans hO0.out
      · split
        · exact bel0
        · exact below_setRow bel0 (by omega) _
      · split
        · omega
        · simp; omega
    clear hR0 hI0 hO0 bel0 hz0
    have hcp3 := hcp 3
    clear hcp
    rw [hcp3]
    go_wp2_with fail
    refine HT.out _ _ ?_
    exact mac_tail ks sn hm hsn hsnw (keyB ks sn key) d kbl kbb hdb hdl d_o dc _ _ _ _ _ _ _ _ _ _ _ _ _ w W1 hg1 hd bel1 hs1 hR1 hI1 hO1 hS hK
end Go.Proofs.YtkppejaigodgiacDoor.Sha
