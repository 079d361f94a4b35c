/- The document's own HMAC, from the key in its block on. -/
import Derived.Test.YtkppejaigodgiacDoorShMac
import Derived.Maps.AppendAt
import Derived.Deep.DeepAppendRoom
import Derived.Deep.AppendLies
namespace Go.Proofs.YtkppejaigodgiacDoor.Sha
open Go.RowKit
/-- One byte appended: in its place, or into a new block and nothing else is touched. -/
theorem run_app1x (w : World) (base n : Nat) (v : Value) (l : List Nat) (x : Nat) (hown : w.ownsRow base 5 1 v n (bs l).toList) (hb : n + 1 ≤ 140737488355328) (hbase : base ≤ w.heap.size) :
    ∃ v' w', (appR 22 #[v, .slice (some ⟨w.heap.size, 0, none⟩) 1 1]).run Tryd.prog (w.alloc (.cells #[.int .u8 (x : Int)] 5)) = .ok v' w' ∧ w'.ownsRow base 5 1 v' (n + 1) (bs (l ++ [x])).toList ∧ w'.os = w.os ∧ w'.tape = w.tape ∧ w'.output = w.output ∧ w.heap.size ≤ w'.heap.size ∧
      ((v'.ownBlock = v.ownBlock ∧ ∀ j, j < w.heap.size → some j ≠ v.ownBlock → w'.heap[j]? = w.heap[j]?) ∨ ((∀ g, v'.ownBlock = some g → w.heap.size ≤ g) ∧ ∀ j, j < w.heap.size → w'.heap[j]? = w.heap[j]?)) := by
  obtain ⟨i0, hi0, hz0, hz1, hz2⟩ := info_parts info5
  obtain ⟨wa, hwa⟩ : ∃ wa, wa = w.alloc (.cells #[.int .u8 (x : Int)] 5) := ⟨_, rfl⟩
  have hwas : wa.heap.size = w.heap.size + 1 := by rw [hwa]; simp
  have hold : ∀ j, j < w.heap.size → wa.heap[j]? = w.heap[j]? := fun j hj => by rw [hwa]; exact heap_alloc_old _ _ (h := hj)
  have hnews : ∀ j u, [Value.int .u8 (x : Int)][j]? = some u → wa.cell? ((⟨w.heap.size, 0, none⟩ : Addr).add j) = some u := by
    rw [hwa]; exact World.news_of_block (cs := #[.int .u8 (x : Int)]) (t := 5) (fr := (0, 0)) (heap_alloc_new w _)
  have h1 : ∀ u ∈ [Value.int .u8 (x : Int)], u.oneCell' = true := by intro u hu; rw [List.mem_singleton] at hu; subst hu; rfl
  have hown' : wa.ownsRow base 5 1 v n (bs l).toList := by rw [hwa]; exact hown.alloc _
  obtain ⟨v', w', hr, ho, hg, hnil, hat⟩ := run_append_own_at (P := Tryd.prog) wa base 22 22 5 i0 _ 1 1 Tryd.underlying22 hi0 hz0 hz1 hz2 rfl (by omega) v n _ hown' ⟨w.heap.size, 0, none⟩ 1 1 [.int .u8 (x : Int)] rfl hnews h1 (by unfold maxLen; omega) (by omega) (by omega)
  have ho' : w'.ownsRow base 5 1 v' (n + 1) (bs (l ++ [x])).toList := by
    rw [bs_app]; exact ho
  have hos : w'.os = w.os ∧ w'.tape = w.tape ∧ w'.output = w.output := by
    have a1 := hg.os
    have a2 := hg.tape
    have a3 := hg.output
    rw [hwa] at a1 a2 a3
    exact ⟨a1, a2, a3⟩
  have hsz : w.heap.size ≤ w'.heap.size := by have := hg.size; omega
  rw [← hwa]
  refine ⟨v', w', hr, ho', hos.1, hos.2.1, hos.2.2, hsz, ?_⟩
  rcases hat with hat | hat
  · left
    exact ⟨hat, fun j hj hne => (hg.block j (by omega) hne).trans (hold j hj)⟩
  · right
    refine ⟨fun g hg' => ?_, fun j hj => ?_⟩
    · rw [hat] at hg'
      have := Option.some.inj hg'
      omega
    · rcases hown'.2 with ⟨rfl, rfl⟩ | ⟨g, cap, cur, rfl, hbg, hgr, hnc, hcm, hcs, htake⟩
      · refine (hg.block j (by omega) ?_).trans (hold j hj)
        intro h; cases h
      · by_cases hroom : n + 1 ≤ cap
        · exfalso
          obtain ⟨w2, hr2, _⟩ := run_append_own_spare (P := Tryd.prog) wa base 22 22 5 i0 1 Tryd.underlying22 hi0 hz1 g n cap _ hown' ⟨w.heap.size, 0, none⟩ 1 1 [.int .u8 (x : Int)] rfl hnews h1 hroom
          rw [hr2] at hr
          injection hr with e1 e2
          rw [← e1] at hat
          have h2 : g = wa.heap.size := Option.some.inj hat
          have := (Array.getElem?_eq_some_iff.1 hgr).1
          omega
        · have holds : ∀ j u, (bs l).toList[j]? = some u → wa.cell? ((⟨g, 0, none⟩ : Addr).add j) = some u := hown'.cells (g := g) rfl
          have hr2 := run_append_grow (P := Tryd.prog) wa 22 22 5 i0 _ Tryd.underlying22 hi0 hz0 ⟨g, 0, none⟩ n cap (bs l).toList (by rw [hz1]; exact hown'.1) holds ⟨w.heap.size, 0, none⟩ 1 1 [.int .u8 (x : Int)] (by rw [hz1]; rfl) hnews (by omega) (by omega) (growslice_fits (by omega) (by rw [hz2]; omega))
          rw [hr2] at hr
          injection hr with e1 e2
          rw [← e2]
          exact (heap_alloc_old wa.drew _ (h := by show j < wa.heap.size; omega)).trans (hold j hj)
theorem own_keep {w w' : World} {base n : Nat} {v : Value} {l : List Value} (h : w.ownsRow base 5 1 v n l) (hb : ∀ g, v.ownBlock = some g → w'.heap[g]? = w.heap[g]?) : w'.ownsRow base 5 1 v n l := by
  obtain ⟨hl, h0 | ⟨g, cap, cur, hv, hbg, hg, r⟩⟩ := h
  · exact ⟨hl, .inl h0⟩
  · exact ⟨hl, .inr ⟨g, cap, cur, hv, hbg, (hb g (by rw [hv]; rfl)).trans hg, r⟩⟩
/-- One byte appended, told by what becomes of the other blocks. -/
theorem app1y (w : World) (base n : Nat) (v : Value) (l : List Nat) (x : Nat) (hown : w.ownsRow base 5 1 v n (bs l).toList) (hb : n + 1 ≤ 140737488355328) (hbase : base ≤ w.heap.size) :
    ∃ v' w', (appR 22 #[v, .slice (some ⟨w.heap.size, 0, none⟩) 1 1]).run Tryd.prog (w.alloc (.cells #[.int .u8 (x : Int)] 5)) = .ok v' w' ∧ w'.ownsRow base 5 1 v' (n + 1) (bs (l ++ [x])).toList ∧ Below base w w' ∧ (∀ j, j < w.heap.size → v.ownBlock ≠ some j → w'.heap[j]? = w.heap[j]?) ∧ (∀ j, j < w.heap.size → v.ownBlock ≠ some j → v'.ownBlock ≠ some j) := by
  obtain ⟨v', w', hr, ho, e1, e2, e3, e4, e5⟩ := run_app1x w base n v l x hown hb hbase
  refine ⟨v', w', hr, ho, ⟨e1, e2, e3, e4, fun j hj => ?_⟩, fun j hj hne => ?_, fun j hj hne he => ?_⟩
  · rcases e5 with ⟨_, h⟩ | ⟨_, h⟩
    · exact h j (by omega) (fun he => by have := (hown.lt j he.symm).1; omega)
    · exact h j (by omega)
  · rcases e5 with ⟨_, h⟩ | ⟨_, h⟩
    · exact h j hj (fun he => hne he.symm)
    · exact h j hj
  · rcases e5 with ⟨h, _⟩ | ⟨h, _⟩
    · exact hne (h ▸ he)
    · have := h j he; omega
theorem take_map1 (kb : List Nat) (f : Nat → Nat) (k : Nat) (h : k < kb.length) : (kb.take (k + 1)).map f = (kb.take k).map f ++ [f (kb.getD k 0)] := by
  rw [List.take_succ_eq_append_getElem h, List.map_append]; simp [List.getD, h]
theorem take_1 (l : List Nat) (k : Nat) (h : k < l.length) : l.take (k + 1) = l.take k ++ [l.getD k 0] := by
  rw [List.take_succ_eq_append_getElem h]; simp [List.getD, h]
theorem map_xor_byt {kb : List Nat} (h : Byt kb) (c : Nat) (hc : c < 256) : Byt (kb.map (fun b => b ^^^ c)) := fun x hx => by
  obtain ⟨y, hy, rfl⟩ := List.mem_map.1 hx
  exact Nat.xor_lt_two_pow (n := 8) (h y hy) hc
theorem byt_app {a b : List Nat} (ha : Byt a) (hb : Byt b) : Byt (a ++ b) := fun x hx => by
  rcases List.mem_append.1 hx with h | h
  · exact ha x h
  · exact hb x h
noncomputable def tail7 : Code := ((Tryd.f7.body.bind (fromR 12)).getD .skip)
attribute [local go_sem ↓] toApp
set_option maxRecDepth 100000 in
set_option maxHeartbeats 3200000 in
theorem tailM (kb d : List Nat) (hkl : kb.length = 64) (hkb : Byt kb) (hdb : Byt d) (hdl : d.length ≤ 140737488351232) (G : Nat) (dO : Option Addr) (dc : Nat) (v0 v2 v3 v6 v7 v8 v9 v10 v11 v12 v13 v14 v15 v16 v17 v18 v19 v20 v21 v22 v23 v24 v25 v26 v27 v28 v29 v30 v31 v32 v33 v34 v35 v36 v37 v38 v39 v40 v41 v42 v43 v44 v45 v46 v47 v48 v49 v50 v51 v52 v53 v54 v55 v56 v57 v58 v59 v60 v61 v62 v63 v64 v65 v66 v67 v68 v69 v70 v71 v72 v73 : Value) (w : World) (hG : G + 1 < w.heap.size) (hG3 : 3 < G)
    (x0 : Hid (w.heap[G]? = some (.cells (bs z32) 25 (0, 0)))) (x1 : Hid (w.heap[G + 1]? = some (.cells (bs kb) 43 (0, 0)))) (hd : Hid (YtkppejaigodgiacDoor.Byl (.slice dO d.length dc) d w)) (ht : Hid (Tr w))
    (R : Ending → World → Prop) (hR : Hid (∀ w', Below G w w' → R (.returned (.agg (bs (macT roundN startN kb d)))) w')) :
    Code.wp Tryd.prog tail7 (bodyPost Tryd.prog Tryd.f7 R) ⟨#[v0, .slice dO d.length dc, v2, v3, .pointer (some ⟨G, 0, none⟩), .pointer (some ⟨G + 1, 0, none⟩), v6, v7, v8, v9, v10, v11, v12, v13, v14, v15, v16, v17, v18, v19, v20, v21, v22, v23, v24, v25, v26, v27, v28, v29, v30, v31, v32, v33, v34, v35, v36, v37, v38, v39, v40, v41, v42, v43, v44, v45, v46, v47, v48, v49, v50, v51, v52, v53, v54, v55, v56, v57, v58, v59, v60, v61, v62, v63, v64, v65, v66, v67, v68, v69, v70, v71, v72, v73], []⟩ w := by
  conv => arg 2; whnf
  go_wp2
  go_loopw [9, 10, 11] (fun a b i wr => ∃ k : Nat, k ≤ 64 ∧ i = .int .i64 k ∧ Hid (wr.ownsRow w.heap.size 5 1 a k (bs ((kb.take k).map (fun b => b ^^^ 54))).toList) ∧ Hid (wr.ownsRow w.heap.size 5 1 b k (bs ((kb.take k).map (fun b => b ^^^ 92))).toList) ∧ Hid (∀ g, a.ownBlock = some g → b.ownBlock ≠ some g) ∧ Below w.heap.size w wr) (fun _ _ i _ => 64 - (intOf i).toNat)
  case atStart => exact ⟨0, by omega, rfl, World.ownsRow_nil _ _ _ _, World.ownsRow_nil _ _ _ _, (fun g hg => by cases hg), Below.refl _ _⟩
  case round =>
    obtain ⟨k, hk, rfl, HA, HB, HN, hbl⟩ := hrel
    by_cases hlt : k < 64
    · have hk1 : (k : Int) < 64 := by omega
      have hk0 : (0 : Int) ≤ (k : Int) := by omega
      obtain ⟨x, hx⟩ : ∃ x, x = kb.getD k 0 := ⟨_, rfl⟩
      have hx8 : x < 256 := by rw [hx]; exact getT hkb _
      obtain ⟨y, hy⟩ : ∃ y, y = x ^^^ 54 := ⟨_, rfl⟩
      obtain ⟨z, hz⟩ : ∃ z, z = x ^^^ 92 := ⟨_, rfl⟩
      have hyI : bits BinOp.xor IntKind.u8 (x : Int) 54 = (y : Int) := by rw [hy]; exact u8_xor_nat x 54 hx8 (by decide)
      have hzI : bits BinOp.xor IntKind.u8 (x : Int) 92 = (z : Int) := by rw [hz]; exact u8_xor_nat x 92 hx8 (by decide)
      obtain ⟨a2, w2, hr2, ho2, b2, f2, g2⟩ := app1y wr w.heap.size k u9 _ y HA.out (by omega) hbl.size
      have hb2 := hbl.trans b2
      have HB2 : w2.ownsRow w.heap.size 5 1 u10 k (bs ((kb.take k).map (fun b => b ^^^ 92))).toList := own_keep HB.out (fun g hg => f2 g (HB.out.lt g hg).2 (fun he => HN.out g he hg))
      obtain ⟨b3, w3, hr3, ho3, bb3, f3, g3⟩ := app1y w2 w.heap.size k u10 _ z HB2 (by omega) hb2.size
      have hb3 := hb2.trans bb3
      have N2 : ∀ g, u10.ownBlock = some g → a2.ownBlock ≠ some g := fun g hg => g2 g (HB.out.lt g hg).2 (fun he => HN.out g he hg)
      have HA3 : Hid (w3.ownsRow w.heap.size 5 1 a2 (k + 1) (bs ((kb.take (k + 1)).map (fun b => b ^^^ 54))).toList) := by
        show World.ownsRow _ _ _ _ _ _ _
        rw [take_map1 kb _ k (by omega), ← hx, ← hy]
        exact own_keep ho2 (fun g hg => f3 g (ho2.lt g hg).2 (fun he => N2 g he hg))
      have HB3 : Hid (w3.ownsRow w.heap.size 5 1 b3 (k + 1) (bs ((kb.take (k + 1)).map (fun b => b ^^^ 92))).toList) := by
        show World.ownsRow _ _ _ _ _ _ _
        rw [take_map1 kb _ k (by omega), ← hx, ← hz]
        exact ho3
      have HN3 : Hid (∀ g, a2.ownBlock = some g → b3.ownBlock ≠ some g) := fun g hg => g3 g (ho2.lt g hg).2 (fun he => N2 g he hg)
      have cx : wr.cell? ⟨G + 1, k, none⟩ = some (.int .u8 (x : Int)) := by
        rw [cell_of_row wr _ _ _ _ _ ((hbl.block _ (by omega)).trans x1.out), bs_get _ _ (by omega), hx]
      have cx2 : w2.cell? ⟨G + 1, k, none⟩ = some (.int .u8 (x : Int)) := by
        rw [cell_of_row w2 _ _ _ _ _ ((hb2.block _ (by omega)).trans x1.out), bs_get _ _ (by omega), hx]
      clear hx hy hz ho2 ho3 f2 g2 f3 g3 N2 HB2 b2 bb3
      go_wp2
      go_roundw
      case rel => exact ⟨k + 1, by omega, by go_num, HA3, HB3, HN3, hb3⟩
      case measure => simp [intOf]; omega
    · have hk64 : k = 64 := by omega
      subst hk64
      have hfull : kb.take 64 = kb := List.take_of_length_le (by omega)
      obtain ⟨P, hP⟩ : ∃ P, P = kb.map (fun b => b ^^^ 54) := ⟨_, rfl⟩
      obtain ⟨O, hO⟩ : ∃ O, O = kb.map (fun b => b ^^^ 92) := ⟨_, rfl⟩
      have hPl : P.length = 64 := by rw [hP, List.length_map, hkl]
      have hOl : O.length = 64 := by rw [hO, List.length_map, hkl]
      have hPb : Byt P := by rw [hP]; exact map_xor_byt hkb 54 (by decide)
      have hOb : Byt O := by rw [hO]; exact map_xor_byt hkb 92 (by decide)
      rw [hfull, ← hP] at HA
      rw [hfull, ← hO] at HB
      have HM : Hid (macT roundN startN kb d = sha (O ++ sha (P ++ d))) := by show _ = _; rw [hP, hO]; rfl
      clear hP hO hfull
      obtain ⟨a2, w2, hr2, ho2, hg2⟩ := run_append_byl wr w.heap.size 64 22 u9 _ P d HA.out (hd.out.below hbl) (by omega) hbl.size
      have hb2 : Below w.heap.size w w2 := below_grown hbl hg2 hbl.size (fun g hg => (HA.out.lt g hg).1)
      have HB2 : Hid (w2.ownsRow w.heap.size 5 1 u10 64 (bs O).toList) := own_keep HB.out (fun g hg => hg2.block g (HB.out.lt g hg).2 (fun he => HN.out g he.symm hg))
      have Y2 : Hid (YtkppejaigodgiacDoor.Byl a2 (P ++ d) w2) := (byl_own ho2).1
      have hT2 : Hid (Tr w2) := ht.out.below hb2 (by omega)
      have hPd : (P ++ d).length ≤ 140737488355200 := by rw [List.length_append]; omega
      obtain ⟨S, hS⟩ : ∃ S, S = sha (P ++ d) := ⟨_, rfl⟩
      have hSl : S.length = 32 := by rw [hS]; exact sha_len _
      have hSb : Byt S := by rw [hS]; exact sha_byt _
      have hk64' : ¬ ((64 : Nat) : Int) < 64 := by omega
      have C1 : Hid (Calls Tryd.prog 24 #[a2] w2 fun e w' => e = .returned (.agg (bs S)) ∧ Below w2.heap.size w2 w') := by rw [hS]; exact ofR_tb _ _ hPd (byt_app hPb hdb) w2 hT2.out Y2.out
      rw [← hS] at HM
      clear hS ho2 hg2 HA HB HN Y2
      go_wp2_with fail
      refine C1.out.mono ?_
      rintro e w3 ⟨rfl, b3⟩
      have hb3 : Below w.heap.size w w3 := hb2.trans (b3.mono hb2.size)
      have HB3 : Hid (w3.ownsRow w.heap.size 5 1 u10 64 (bs O).toList) := own_keep HB2.out (fun g hg => b3.block g (HB2.out.lt g hg).2)
      clear C1 HB2 b3 hT2
      go_wp2_with (refine wpList_store_row rfl 25 _ _ rfl _ _ rfl rfl 25 _ (by exact heap_alloc_new _ _) (by rw [size24', bs_size, hSl]) (by rw [bs_size, hSl]; rfl) (bs_one _) ?_)
      generalize hW4 : (w3.alloc (Obj.cells _ 25)).setRow w3.heap.size (bs S) = w4
      have hs4 : w4.heap.size = w3.heap.size + 1 := by rw [← hW4]; simp
      have r4 : Hid (w4.heap[w3.heap.size]? = some (.cells (bs S) 25 (0, 0))) := by rw [← hW4]; exact setRow_heap _ _ _ _ _ _ (heap_alloc_new _ _)
      have b4 : Below w3.heap.size w3 w4 := by rw [← hW4]; exact below_setRow ((Below.refl _ w3).alloc (Nat.le_refl _) _) (Nat.le_refl _) _
      have hb4 : Below w.heap.size w w4 := hb3.trans (b4.mono hb3.size)
      have HB4 : Hid (w4.ownsRow w.heap.size 5 1 u10 64 (bs O).toList) := own_keep HB3.out (fun g hg => b4.block g (HB3.out.lt g hg).2)
      have N4 : Hid (u10.ownBlock ≠ some w3.heap.size) := fun he => by have := (HB3.out.lt _ he).2; omega
      have hq : Hid (w3.heap.size < w4.heap.size) := by show _ < _; omega
      have hqB : Hid (w.heap.size ≤ w3.heap.size) := hb3.size
      obtain ⟨q, hqq⟩ : ∃ q, q = w3.heap.size := ⟨_, rfl⟩
      rw [← hqq] at r4 N4 hq hqB ⊢
      clear hW4 hs4 HB3 b4 hb3 hb2 hqq
      go_wp2
      go_loopw [10, 13] (fun b i wr => ∃ k : Nat, k ≤ 32 ∧ i = .int .i64 k ∧ Hid (wr.ownsRow w.heap.size 5 1 b (64 + k) (bs (O ++ S.take k)).toList) ∧ Hid (b.ownBlock ≠ some q) ∧ Hid (wr.heap[q]? = some (.cells (bs S) 25 (0, 0))) ∧ Below w.heap.size w wr) (fun _ i _ => 32 - (intOf i).toNat)
      case atStart => exact ⟨0, by omega, rfl, by rw [List.take_zero, List.append_nil]; exact HB4, N4, r4, hb4⟩
      case round =>
        clear HB4 N4 hb4 r4 hk
        obtain ⟨k, hk, rfl, HB, HN, HR, hbl⟩ := hrel
        by_cases hlt2 : k < 32
        · have hk1 : (k : Int) < 32 := by omega
          have hk0 : (0 : Int) ≤ (k : Int) := by omega
          obtain ⟨x, hx⟩ : ∃ x, x = S.getD k 0 := ⟨_, rfl⟩
          have cx : wr.cell? ⟨q, k, none⟩ = some (.int .u8 (x : Int)) := by
            rw [cell_of_row wr _ _ _ _ _ HR.out, bs_get _ _ (by omega), hx]
          obtain ⟨b3, w5, hr3, ho3, bb3, f3, g3⟩ := app1y wr w.heap.size (64 + k) u10 _ x HB.out (by omega) hbl.size
          have hb3 := hbl.trans bb3
          have hqs : q < wr.heap.size := (Array.getElem?_eq_some_iff.1 HR.out).1
          have HB3 : Hid (w5.ownsRow w.heap.size 5 1 b3 (64 + (k + 1)) (bs (O ++ S.take (k + 1))).toList) := by
            show World.ownsRow _ _ _ _ _ _ _
            rw [take_1 S k (by omega), ← hx, ← List.append_assoc]
            exact ho3
          have HN3 : Hid (b3.ownBlock ≠ some q) := g3 q hqs HN.out
          have HR3 : Hid (w5.heap[q]? = some (.cells (bs S) 25 (0, 0))) := (f3 q hqs HN.out).trans HR.out
          clear hx ho3 f3 g3 bb3 hqs
          go_wp2
          go_roundw
          case rel => exact ⟨k + 1, by omega, by go_num, HB3, HN3, HR3, hb3⟩
          case measure => simp [intOf]; omega
        · have hk32 : k = 32 := by omega
          subst hk32
          have Y : Hid (YtkppejaigodgiacDoor.Byl u10 (O ++ S) wr) := by
            have := (byl_own HB.out).1
            rw [List.take_of_length_le (by omega)] at this
            exact this
          obtain ⟨M, hM⟩ : ∃ M, M = sha (O ++ S) := ⟨_, rfl⟩
          have hMl : M.length = 32 := by rw [hM]; exact sha_len _
          have hT : Tr wr := ht.out.below hbl (by omega)
          have C2 : Hid (Calls Tryd.prog 24 #[u10] wr fun e w' => e = .returned (.agg (bs M)) ∧ Below wr.heap.size wr w') := by rw [hM]; exact ofR_tb _ _ (by rw [List.length_append]; omega) (byt_app hOb hSb) wr hT Y.out
          have hk32' : ¬ ((32 : Nat) : Int) < 32 := by omega
          rw [← hM] at HM
          clear hM hT Y HB HN HR
          go_wp2_with fail
          refine C2.out.mono ?_
          rintro e w6 ⟨rfl, b6⟩
          have hb6 : Below w.heap.size w w6 := hbl.trans (b6.mono hbl.size)
          have x6 : Hid (w6.heap[G]? = some (.cells (bs z32) 25 (0, 0))) := (hb6.block _ (by omega)).trans x0.out
          go_wp2_with (refine wpList_store_row rfl 25 _ _ rfl _ _ rfl rfl 25 _ (by exact x6.out) (by rw [size24', bs_size, hMl]) (by rw [bs_size, bs_size, hMl]; rfl) (bs_one _) ?_)
          have hres : (w6.setRow G (bs M)).heap[G]? = some (.cells (bs M) 25 (0, 0)) := setRow_heap _ _ _ _ _ _ x6.out
          refine bodyPost_ret (v := .agg (bs M)) (results_cell_row rfl _ _ G 25 _ (0, 0) _ rfl hres Tryd.underlying25 rfl (by rw [size24', bs_size, hMl])) rfl ?_
          rw [← HM.out]
          exact hR.out _ (below_setRow (hb6.mono (by omega)) (Nat.le_refl _) _)
end Go.Proofs.YtkppejaigodgiacDoor.Sha
