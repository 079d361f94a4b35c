import Derived.Test.YtkppejaigodgiaaDoorEval
import Derived.Lib.SlBytesConst
namespace Go.Proofs.YtkppejaigodgiaaDoor
open Go.RowKit
theorem rep_toList (k : Nat) : (bs (List.replicate (k + 1) 97)).toList = (bs (List.replicate k 97)).toList ++ [Value.int .u8 97] := by
  simp [bs, List.replicate_succ']
theorem byl_own {w : World} {base n : Nat} {v : Value} {l : List Nat} (h : w.ownsRow base 5 1 v n (bs l).toList) : Byl v l w ∧ n = l.length := by
  obtain ⟨hl, ⟨rfl, rfl⟩ | ⟨g, cap, cur, rfl, hb, hg, hn, hm, hs, ht⟩⟩ := h
  · have : l.length = 0 := by simpa [bs] using hl
    exact ⟨.inl ⟨rfl, List.eq_nil_of_length_eq_zero this⟩, this.symm⟩
  · have hln : l.length = n := by simpa [bs] using hl
    subst hln
    refine ⟨.inr ⟨g, 0, cap, rfl, hn, hm, (Array.getElem?_eq_some_iff.1 hg).1, fun j hj => ?_⟩, rfl⟩
    have h1 : cur.toList[j]? = (bs l).toList[j]? := by rw [← ht, List.getElem?_take, if_pos (by omega)]
    rw [Nat.zero_add, cell_of_row w _ _ _ _ _ hg, ← Array.getElem?_toList, h1, Array.getElem?_toList, bs_get _ _ hj]
theorem byt_rep (k : Nat) : Byt (List.replicate k 97) := fun x hx => by rw [List.eq_of_mem_replicate hx]; decide
theorem byl_new (w : World) (l : List Nat) (n : Nat) (hn : n = l.length) (hl : n ≤ maxLen) : Byl (.slice (some ⟨w.heap.size, 0, none⟩) n n) l (w.alloc (.cells (bs l) 5 (n, n + 1))) := by
  subst hn
  exact .inr ⟨w.heap.size, 0, l.length, rfl, Nat.le_refl _, hl, by simp, fun j hj => by rw [Nat.zero_add, cell_of_row _ _ _ _ _ _ (heap_alloc_new _ _), bs_get _ _ hj]⟩
/-- The load of a whole array, kept shut. -/
def loadR (ty : Nat) (v : Value) : Sem Value := Instr.loadAt ty v
theorem to28l (v : Value) : Instr.loadAt 28 v = loadR 28 v := rfl
theorem run_loadR28 (w : World) (g : Nat) (l : List Nat) (hg : w.heap[g]? = some (.cells (bs l) 28 (0, 0))) (hl : l.length = 32) : (loadR 28 (.pointer (some ⟨g, 0, none⟩))).run Tryd.prog w = .ok (.agg (bs l)) w := by
  unfold loadR
  simp only [Instr.loadAt, Instr.sureAddr, Sem.run_bind, Sem.run_pure, Result.andThen_ok, run_loadVar_row w g 28 28 (bs l) (0, 0) _ hg Tryd.underlying28 rfl (by rw [size28, bs_size, hl])]
attribute [local go_sem ↓] to28l
set_option maxRecDepth 100000 in
set_option maxHeartbeats 3200000 in
theorem known_any (w : World) (ht : Tb w) : Calls Tryd.prog 4 #[] w fun e w' => e = .returned (.bool true) ∧ Below w.heap.size w w' := by
  obtain ⟨i0, hi0, hz0, hz1, hz2⟩ := info_parts info5
  have hsz := ht.sz
  have kc := fun (w : World) (C : Array Value) (n c : Nat) => Lib.run_convert_bytes_const (P := Tryd.prog) w 26 5 C n c Tryd.underlying26 Tryd.underlying5
  go_enter Tryd.func4, Tryd.ntmps4
  go_wp2_with fail
  go_loopw [1, 2] (fun v i wr => ∃ k : Nat, i = .int .i64 (k : Int) ∧ k ≤ 1000 ∧ Hid (wr.ownsRow w.heap.size 5 1 v k (bs (List.replicate k 97)).toList) ∧ Below w.heap.size w wr) (fun _ i _ => 1000 - (intOf i).toNat)
  case atStart => exact ⟨0, rfl, by omega, World.ownsRow_nil _ _ _ _, Below.refl _ _⟩
  case round =>
    obtain ⟨k, rfl, hk, hown, hbl⟩ := hrel
    by_cases hlt : k < 1000
    · have hk1 : (k : Int) < 1000 := by omega
      have hmx : k + 1 ≤ maxLen := by unfold maxLen; omega
      have hby : (k + 1) * 1 ≤ 140737488355328 := by omega
      have hsr := hbl.size
      go_wp2_with (at_builtin; refine wpList_append_lies _ rfl _ _ _ rfl w.heap.size 5 i0 _ 1 1 Tryd.underlying26 hi0 hz0 hz1 hz2 rfl (by omega) u1 k _ rfl (hown.out.alloc _) ⟨wr.heap.size, 0, none⟩ 1 1 _ rfl rfl (World.news_of_block (t := 5) (fr := (0, 0)) (heap_alloc_new wr _)) (by simp [Value.oneCell']) (by omega) hmx hby (by simp; omega) (wr.heap.size + 1) (by simp) ?_)
      intro gg cap w1 hown1 hgrow hat hlt2
      have hown2 : Hid (w1.ownsRow w.heap.size 5 1 (Value.slice (some ⟨gg, 0, none⟩) (k + 1) cap) (k + 1) (bs (List.replicate (k + 1) 97)).toList) := by
        show World.ownsRow _ _ _ _ _ _ _
        rw [rep_toList]; exact hown1
      have hbl1 : Below w.heap.size w w1 := below_grown (hbl.alloc (by omega) _) hgrow (by simp; omega) (fun g hg => (hown.out.lt g hg).1)
      clear hown1 hgrow hat
      go_wp2
      go_roundw
      case rel => exact ⟨k + 1, by go_num, by omega, hown2, hbl1⟩
      case measure => simp [intOf]; omega
    · have hk1000 : k = 1000 := by omega
      subst hk1000
      have hby : Hid (Byl u1 (List.replicate 1000 97) wr) := (byl_own hown.out).1
      have tb0 : Tb wr := ht.below hbl hsz
      clear hown
      go_wp2_with fail
      refine (of_tb [] _ (by decide) (fun x hx => by cases hx) wr tb0 (.inl ⟨rfl, rfl⟩)).mono ?_
      rintro e w1 ⟨rfl, b1⟩
      have tb1 := tb0.below b1 tb0.sz
      go_wp2_with fail
      refine (hex_nil w1).mono ?_
      rintro e w2 ⟨rfl, b2⟩
      have tb2 := tb1.below b2 tb1.sz
      go_wp2_with fail
      have a3 : Below w2.heap.size w2 (w2.alloc (.cells (bs [97, 98, 99]) 5 (3, 4))) := (Below.refl _ _).alloc (Nat.le_refl _) _
      refine (of_tb [97, 98, 99] _ (by decide) (by unfold Byt; decide) _ (tb2.below a3 tb2.sz) (byl_new w2 [97, 98, 99] 3 rfl (by decide))).mono ?_
      rintro e w3 ⟨rfl, b3'⟩
      have b3 : Below w2.heap.size w2 w3 := a3.trans (b3'.mono (by simp))
      have tb3 := tb2.below b3 tb2.sz
      clear a3 b3'
      go_wp2_with fail
      refine (hex_abc w3).mono ?_
      rintro e w4 ⟨rfl, b4⟩
      have tb4 := tb3.below b4 tb3.sz
      go_wp2_with fail
      have a5 : Below w4.heap.size w4 (w4.alloc (.cells (bs [97, 98, 99, 100, 98, 99, 100, 101, 99, 100, 101, 102, 100, 101, 102, 103, 101, 102, 103, 104, 102, 103, 104, 105, 103, 104, 105, 106, 104, 105, 106, 107, 105, 106, 107, 108, 106, 107, 108, 109, 107, 108, 109, 110, 108, 109, 110, 111, 109, 110, 111, 112, 110, 111, 112, 113]) 5 (56, 57))) := (Below.refl _ _).alloc (Nat.le_refl _) _
      refine (of_tb [97, 98, 99, 100, 98, 99, 100, 101, 99, 100, 101, 102, 100, 101, 102, 103, 101, 102, 103, 104, 102, 103, 104, 105, 103, 104, 105, 106, 104, 105, 106, 107, 105, 106, 107, 108, 106, 107, 108, 109, 107, 108, 109, 110, 108, 109, 110, 111, 109, 110, 111, 112, 110, 111, 112, 113] _ (by decide) (by unfold Byt; decide) _ (tb4.below a5 tb4.sz) (byl_new w4 [97, 98, 99, 100, 98, 99, 100, 101, 99, 100, 101, 102, 100, 101, 102, 103, 101, 102, 103, 104, 102, 103, 104, 105, 103, 104, 105, 106, 104, 105, 106, 107, 105, 106, 107, 108, 106, 107, 108, 109, 107, 108, 109, 110, 108, 109, 110, 111, 109, 110, 111, 112, 110, 111, 112, 113] 56 rfl (by decide))).mono ?_
      rintro e w5 ⟨rfl, b5'⟩
      have b5 : Below w4.heap.size w4 w5 := a5.trans (b5'.mono (by simp))
      have tb5 := tb4.below b5 tb4.sz
      clear a5 b5'
      go_wp2_with fail
      refine (hex_two w5).mono ?_
      rintro e w6 ⟨rfl, b6⟩
      have tb6 := tb5.below b6 tb5.sz
      have z1 := b1.size; have z2 := b2.size; have z3 := b3.size; have z4 := b4.size; have z5 := b5.size; have z6 := b6.size
      have b06 : Below wr.heap.size wr w6 := b1.trans ((b2.mono z1).trans ((b3.mono (by omega)).trans ((b4.mono (by omega)).trans ((b5.mono (by omega)).trans (b6.mono (by omega))))))
      clear b1 b2 b3 b4 b5 b6 z1 z2 z3 z4 z5 z6 tb1 tb2 tb3 tb4 tb5
      have hby6 : Hid (Byl u1 (List.replicate 1000 97) w6) := hby.out.keep b06.size b06.block
      go_wp2_with fail
      refine (of_tb (List.replicate 1000 97) _ (by rw [List.length_replicate]; decide) (byt_rep _) w6 tb6 hby6.out).mono ?_
      rintro e w7 ⟨rfl, b7⟩
      have tb7 := tb6.below b7 tb6.sz
      clear hby6
      obtain ⟨sm, hsm⟩ : ∃ x, x = sha (List.replicate 1000 97) := ⟨_, rfl⟩
      have hxm : Hid (∀ w : World, Calls Tryd.prog 14 #[.agg (bs sm)] w fun e w' => e = .returned (.string ⟨#[52, 49, 101, 100, 101, 99, 101, 52, 50, 100, 54, 51, 101, 56, 100, 57, 98, 102, 53, 49, 53, 97, 57, 98, 97, 54, 57, 51, 50, 101, 49, 99, 50, 48, 99, 98, 99, 57, 102, 53, 97, 53, 100, 49, 51, 52, 54, 52, 53, 97, 100, 98, 53, 100, 98, 49, 98, 57, 55, 51, 55, 101, 97, 51]⟩) ∧ Below w.heap.size w w') := by rw [hsm]; exact hex_many
      rw [← hsm]
      clear hsm
      go_wp2_with fail
      refine (hxm.out w7).mono ?_
      rintro e w8 ⟨rfl, b8⟩
      have tb8 := tb7.below b8 tb7.sz
      go_wp2_with fail
      have kc2 : ∀ (o : Obj) (C : Array Value) (n c : Nat), (convert 26 26 (Value.slice (some ⟨w8.heap.size + 1, 0, none⟩) n c)).run Tryd.prog ((w8.alloc o).alloc (Obj.cells C 5)) = .ok (Value.slice (some ⟨w8.heap.size + 1, 0, none⟩) n c) ((w8.alloc o).alloc (Obj.cells C 5 (C.size, C.size + 1))) := fun o C n c => by
        have := kc (w8.alloc o) C n c
        simpa using this
      rw [kc2]
      go_wp2_with fail
      have a9 : Below w8.heap.size w8 ((w8.alloc (.cells (bs [107, 101, 121]) 5 (3, 4))).alloc (.cells (bs [84, 104, 101, 32, 113, 117, 105, 99, 107, 32, 98, 114, 111, 119, 110, 32, 102, 111, 120, 32, 106, 117, 109, 112, 115, 32, 111, 118, 101, 114, 32, 116, 104, 101, 32, 108, 97, 122, 121, 32, 100, 111, 103]) 5 (43, 44))) := ((Below.refl _ _).alloc (Nat.le_refl _) _).alloc (by simp) _
      have y1 : Byl (.slice (some ⟨w8.heap.size, 0, none⟩) 3 3) [107, 101, 121] ((w8.alloc (.cells (bs [107, 101, 121]) 5 (3, 4))).alloc (.cells (bs [84, 104, 101, 32, 113, 117, 105, 99, 107, 32, 98, 114, 111, 119, 110, 32, 102, 111, 120, 32, 106, 117, 109, 112, 115, 32, 111, 118, 101, 114, 32, 116, 104, 101, 32, 108, 97, 122, 121, 32, 100, 111, 103]) 5 (43, 44))) := (byl_new w8 [107, 101, 121] 3 rfl (by decide)).keep (by simp) (fun j hj => heap_alloc_old _ _ (h := hj))
      have y2 : Byl (.slice (some ⟨w8.heap.size + 1, 0, none⟩) 43 43) [84, 104, 101, 32, 113, 117, 105, 99, 107, 32, 98, 114, 111, 119, 110, 32, 102, 111, 120, 32, 106, 117, 109, 112, 115, 32, 111, 118, 101, 114, 32, 116, 104, 101, 32, 108, 97, 122, 121, 32, 100, 111, 103] ((w8.alloc (.cells (bs [107, 101, 121]) 5 (3, 4))).alloc (.cells (bs [84, 104, 101, 32, 113, 117, 105, 99, 107, 32, 98, 114, 111, 119, 110, 32, 102, 111, 120, 32, 106, 117, 109, 112, 115, 32, 111, 118, 101, 114, 32, 116, 104, 101, 32, 108, 97, 122, 121, 32, 100, 111, 103]) 5 (43, 44))) := by
        have := byl_new (w8.alloc (.cells (bs [107, 101, 121]) 5 (3, 4))) [84, 104, 101, 32, 113, 117, 105, 99, 107, 32, 98, 114, 111, 119, 110, 32, 102, 111, 120, 32, 106, 117, 109, 112, 115, 32, 111, 118, 101, 114, 32, 116, 104, 101, 32, 108, 97, 122, 121, 32, 100, 111, 103] 43 rfl (by decide)
        simpa using this
      refine (mac_tb [107, 101, 121] [84, 104, 101, 32, 113, 117, 105, 99, 107, 32, 98, 114, 111, 119, 110, 32, 102, 111, 120, 32, 106, 117, 109, 112, 115, 32, 111, 118, 101, 114, 32, 116, 104, 101, 32, 108, 97, 122, 121, 32, 100, 111, 103] _ _ (by unfold Byt; decide) (by unfold Byt; decide) (by decide) (by decide) _ (tb8.below a9 tb8.sz) y1 y2).mono ?_
      obtain ⟨s1, hs1⟩ : ∃ x, x = macN roundN startN [107, 101, 121] [84, 104, 101, 32, 113, 117, 105, 99, 107, 32, 98, 114, 111, 119, 110, 32, 102, 111, 120, 32, 106, 117, 109, 112, 115, 32, 111, 118, 101, 114, 32, 116, 104, 101, 32, 108, 97, 122, 121, 32, 100, 111, 103] := ⟨_, rfl⟩
      have hx1 : Hid (∀ w : World, Calls Tryd.prog 14 #[.agg (bs s1)] w fun e w' => e = .returned (.string ⟨#[102, 55, 98, 99, 56, 51, 102, 52, 51, 48, 53, 51, 56, 52, 50, 52, 98, 49, 51, 50, 57, 56, 101, 54, 97, 97, 54, 102, 98, 49, 52, 51, 101, 102, 52, 100, 53, 57, 97, 49, 52, 57, 52, 54, 49, 55, 53, 57, 57, 55, 52, 55, 57, 100, 98, 99, 50, 100, 49, 97, 51, 99, 100, 56]⟩) ∧ Below w.heap.size w w') := by rw [hs1]; exact hexm_fox
      have s1l : s1.length = 32 := by rw [hs1]; exact macN_len _ _ _ _
      rw [← hs1]
      clear hs1 y1 y2 kc2
      rintro e w9 ⟨rfl, b9'⟩
      have b9 : Below w8.heap.size w8 w9 := a9.trans (b9'.mono (by simp; omega))
      have tb9 := tb8.below b9 tb8.sz
      clear a9 b9'
      go_wp2_with (refine wpList_store_row rfl 28 _ _ rfl _ _ rfl rfl 28 _ (by exact heap_alloc_new _ _) (by rw [size28, bs_size, s1l]) (by rw [bs_size, s1l]; rfl) (bs_one _) ?_)
      generalize hW : (w9.alloc (Obj.cells _ 28)).setRow w9.heap.size (bs s1) = WA
      have rA : Hid (WA.heap[w9.heap.size]? = some (.cells (bs s1) 28 (0, 0))) := by rw [← hW]; exact setRow_heap _ _ _ _ _ _ (heap_alloc_new _ _)
      have bA : Below w9.heap.size w9 WA := by rw [← hW]; exact below_setRow ((Below.refl _ _).alloc (Nat.le_refl _) _) (Nat.le_refl _) _
      have lA : w9.heap.size < WA.heap.size := by rw [← hW]; simp
      clear hW
      have tbA := tb9.below bA tb9.sz
      refine (mac_tb [] [] _ _ (fun x hx => by cases hx) (fun x hx => by cases hx) (by decide) (by decide) WA tbA (.inl ⟨rfl, rfl⟩) (.inl ⟨rfl, rfl⟩)).mono ?_
      obtain ⟨s2, hs2⟩ : ∃ x, x = macN roundN startN [] [] := ⟨_, rfl⟩
      have hx2 : Hid (∀ w : World, Calls Tryd.prog 14 #[.agg (bs s2)] w fun e w' => e = .returned (.string ⟨#[98, 54, 49, 51, 54, 55, 57, 97, 48, 56, 49, 52, 100, 57, 101, 99, 55, 55, 50, 102, 57, 53, 100, 55, 55, 56, 99, 51, 53, 102, 99, 53, 102, 102, 49, 54, 57, 55, 99, 52, 57, 51, 55, 49, 53, 54, 53, 51, 99, 54, 99, 55, 49, 50, 49, 52, 52, 50, 57, 50, 99, 53, 97, 100]⟩) ∧ Below w.heap.size w w') := by rw [hs2]; exact hexm_none
      have s2l : s2.length = 32 := by rw [hs2]; exact macN_len _ _ _ _
      rw [← hs2]
      clear hs2
      rintro e wB ⟨rfl, bB⟩
      go_wp2_with (refine wpList_store_row rfl 28 _ _ rfl _ _ rfl rfl 28 _ (by exact heap_alloc_new _ _) (by rw [size28, bs_size, s2l]) (by rw [bs_size, s2l]; rfl) (bs_one _) ?_)
      generalize hW : (wB.alloc (Obj.cells _ 28)).setRow wB.heap.size (bs s2) = WC
      have rC : Hid (WC.heap[wB.heap.size]? = some (.cells (bs s2) 28 (0, 0))) := by rw [← hW]; exact setRow_heap _ _ _ _ _ _ (heap_alloc_new _ _)
      have bC : Below wB.heap.size wB WC := by rw [← hW]; exact below_setRow ((Below.refl _ _).alloc (Nat.le_refl _) _) (Nat.le_refl _) _
      have lC : wB.heap.size < WC.heap.size := by rw [← hW]; simp
      clear hW
      have zB := bB.size
      have r1C : WC.heap[w9.heap.size]? = some (.cells (bs s1) 28 (0, 0)) := (bC.block _ (by omega)).trans ((bB.block _ lA).trans rA.out)
      have ld1 := run_loadR28 WC w9.heap.size s1 r1C s1l
      clear r1C
      rw [ld1]
      go_wp2_with fail
      refine (hx1.out WC).mono ?_
      rintro e wD ⟨rfl, bD⟩
      have ld2 := run_loadR28 wD wB.heap.size s2 ((bD.block _ lC).trans rC.out) s2l
      go_wp2_with fail
      refine (hx2.out wD).mono ?_
      rintro e wE ⟨rfl, bE⟩
      go_wp2_with fail
      go_ret
      refine ⟨rfl, ?_⟩
      have z6 := b06.size; have z7 := b7.size; have z8 := b8.size; have z9 := b9.size; have zA := bA.size; have zC := bC.size; have zD := bD.size; have zw := hbl.size
      exact hbl.trans ((b06.mono zw).trans ((b7.mono (by omega)).trans ((b8.mono (by omega)).trans ((b9.mono (by omega)).trans ((bA.mono (by omega)).trans ((bB.mono (by omega)).trans ((bC.mono (by omega)).trans ((bD.mono (by omega)).trans (bE.mono (by omega))))))))))
end Go.Proofs.YtkppejaigodgiaaDoor
