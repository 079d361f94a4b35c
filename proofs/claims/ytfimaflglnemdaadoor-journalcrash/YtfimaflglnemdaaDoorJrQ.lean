/- JournalReplays: a record, whole. -/
import Derived.Test.YtfimaflglnemdaaDoorJrO
namespace Go.Proofs.YtfimaflglnemdaaDoor
open Go.RowKit
open JM in
attribute [local go_sem ↓] toSlB in
set_option maxRecDepth 100000 in
set_option maxHeartbeats 3200000 in
theorem record_any (W0 W : World) {g pos frm cD : Nat} {rv t0 t1 t2 t3 t4 t5 : Value} {oD : Option Addr} {l : List Nat}
    (hg : W.heap[g]? = some (.cells (rdA (.slice oD l.length cD) pos frm t0 t1 t2 t3 t4 t5) 130 (0, 0))) (hD : Bl W0 (.slice oD l.length cD) l) (hp : pos ≤ l.length) (hlim : l.length ≤ 1000000000000) (hW0 : W0.heap.size ≤ g)
    (hag : ∀ j, j < W0.heap.size → W.heap[j]? = W0.heap[j]?) (hT : Tc W) (hTg : 0 < g) (us : List Ru) (hus : us.length ≤ 1000) (hU : ∀ w', But g W w' → Rul w' rv us) :
    Calls Tryd.prog 77 #[.pointer (some ⟨g, 0, none⟩), rv] W (RecP g W0 W (.slice oD l.length cD) t0 t1 t2 t3 t4 t5 pos (recd crcN (hasR us) (l.drop pos))) := by
  have gl : g < W.heap.size := (Array.getElem?_eq_some_iff.1 hg).1
  obtain ⟨V, hV⟩ : ∃ V, W.alloc (.cells zRc 142) = V := ⟨_, rfl⟩
  have vg : V.heap[g]? = some (.cells (rdA (.slice oD l.length cD) pos frm t0 t1 t2 t3 t4 t5) 130 (0, 0)) := by rw [← hV]; exact (heap_alloc_old _ _ (h := gl)).trans hg
  have vr : V.heap[W.heap.size]? = some (.cells zRc 142 (0, 0)) := by rw [← hV]; exact heap_alloc_new _ _
  have vb : Below W.heap.size W V := by rw [← hV]; exact (Below.refl _ W).alloc (Nat.le_refl _) _
  have c1 : V.cell? ⟨g, 1, none⟩ = some (.int .i64 (pos : Int)) := (cell_of_row _ _ _ _ _ _ vg).trans rfl
  have c2 : V.cell? ⟨g, 2, none⟩ = some (.int .i64 (frm : Int)) := (cell_of_row _ _ _ _ _ _ vg).trans rfl
  have f2 : V.frozen? ⟨g, 2, none⟩ = false := frozen_of_row _ _ _ _ _ vg
  obtain ⟨Y, hY⟩ : ∃ Y, V.setCell ⟨g, 2, none⟩ (.int .i64 (pos : Int)) = Y := ⟨_, rfl⟩
  have yg : Y.heap[g]? = some (.cells (rdA (.slice oD l.length cD) pos pos t0 t1 t2 t3 t4 t5) 130 (0, 0)) := by
    rw [← hY]; exact (heap_setCell_same V g 2 _ _ _ vg).trans rfl
  have yb : But g W Y := by rw [← hY]; exact ((But.refl g W).below vb).set 2 _
  have yr : Y.heap[W.heap.size]? = some (.cells zRc 142 (0, 0)) := by rw [← hY]; exact (heap_setCell_other V ⟨g, 2, none⟩ _ _ (by show W.heap.size ≠ g; omega)).trans vr
  have d0 : Y.cell? ⟨g, 0, none⟩ = some (.slice oD l.length cD) := (cell_of_row _ _ _ _ _ _ yg).trans rfl
  have d1 : Y.cell? ⟨g, 1, none⟩ = some (.int .i64 (pos : Int)) := (cell_of_row _ _ _ _ _ _ yg).trans rfl
  obtain ⟨oR, sR, bR⟩ := cut_l hD pos hp
  have hrl : (l.drop pos).length = l.length - pos := List.length_drop
  rw [← hrl] at sR bR
  generalize hrs : l.drop pos = rs at *
  replace hrl := mkHid hrl
  have HF := mkHid (And.intro yg (And.intro yr (And.intro yb (And.intro bR (And.intro hag (And.intro hT hU))))))
  clear yg yr yb bR hag hT hU hg vg vr vb hD
  have hz : zRc = #[.int .u8 0, .int .u64 0, .int .i64 0, .slice none 0 0] := rfl
  rw [hz] at hV
  go_enter Tryd.func77, Tryd.ntmps77
  go_wp2_with fail
  go_region
  obtain ⟨Z, hZ⟩ : ∃ Z, Y.drew = Z := ⟨_, rfl⟩
  have z2 : Z.cell? ⟨g, 2, none⟩ = some (.int .i64 (pos : Int)) := by rw [← hZ]; exact (cell_of_row _ _ _ _ _ _ HF.out.1).trans rfl
  have zb : But g W Z := by rw [← hZ]; exact HF.out.2.2.1.below ⟨rfl, rfl, rfl, Nat.le_refl _, fun _ _ => rfl⟩
  have zg : Z.heap[g]? = some (.cells (rdA (.slice oD l.length cD) pos pos t0 t1 t2 t3 t4 t5) 130 (0, 0)) := by rw [← hZ]; exact HF.out.1
  have zr : Z.heap[W.heap.size]? = some (.cells zRc 142 (0, 0)) := by rw [← hZ]; exact HF.out.2.1
  have hsz : W0.heap.size ≤ W.heap.size := by omega
  have za : ∀ j, j < W0.heap.size → Z.heap[j]? = W0.heap[j]? := fun j hj => (zb.block j (by omega) (by omega)).trans (HF.out.2.2.2.2.1 j hj)
  have CS := mkHid (fun t => spoilt_any t g pos Z z2)
  have CT := mkHid (fun t => torn_any t g pos Z z2)
  rw [hZ]
  clear hZ z2 d0 d1 c1 c2 f2 hY hV sR
  replace zb := mkHid zb
  replace zg := mkHid zg
  replace zr := mkHid zr
  replace za := mkHid za
  by_cases hl0 : 0 < rs.length
  · obtain ⟨oa', ca', eR, -, -, -, hc⟩ := HF.out.2.2.2.1.cells
    injection eR with e1 e2 e3
    clear e2
    subst e1 e3
    obtain ⟨gd, od, rfl, hgd, hcc⟩ := hc hl0
    have k0 : Z.cell? ⟨gd, od, none⟩ = some (.int .u8 ((rs.getD 0 0 : Nat) : Int)) := (World.cell?_of_block (w := W0) (a := ⟨gd, od, none⟩) (za.out gd hgd)).trans (hcc 0 hl0)
    have l0 : (0 : Int) < (rs.length : Int) := by omega
    clear hcc hc
    obtain ⟨kk, hkk⟩ : ∃ kk, rs.getD 0 0 = kk := ⟨_, rfl⟩
    rw [hkk] at k0
    replace hkk := mkHid hkk
    by_cases hk : kk = 158
    · subst hk
      by_cases h18 : rs.length < 18
      · have hX : recd crcN (hasR us) rs = .torn := by unfold recd; rw [if_neg (by rw [hkk.out]; simp), if_pos h18]
        rw [hX]
        have i18 : (rs.length : Int) < 18 := by omega
        go_wp2_with fail
        refine (CS.out _).mono ?_
        rintro e w' ⟨rfl, rfl⟩
        simp only [brE, if_false, Bool.false_eq_true]
        go_wp2_with fail
        refine (CT.out _).mono ?_
        rintro e w' ⟨rfl, rfl⟩
        exact ⟨rfl, zb.out, rfl, zg.out⟩
      · have i18 : ¬ (rs.length : Int) < 18 := by omega
        have hX : recd crcN (hasR us) rs = frontX us rs (rs.getD 1 0) (le ((rs.drop 2).take 8)) (le ((rs.drop 10).take 4)) := by unfold recd; rw [if_neg (by rw [hkk.out]; simp), if_neg h18]; rfl
        replace hX := mkHid hX
        go_wp2_with fail
        refine (CS.out _).mono ?_
        rintro e w' ⟨rfl, rfl⟩
        simp only [brE, if_false, Bool.false_eq_true]
        go_upto_region 4 with fail
        rename_i K hK
        have HK := mkHid (show ∀ a w', Code.wp Tryd.prog (tlG Tryd.f77 5) (bodyPost Tryd.prog Tryd.f77 (RecP g W0 W (.slice oD l.length cD) t0 t1 t2 t3 t4 t5 pos (recd crcN (hasR us) rs))) a w' → K a w' from hK)
        clear hK
        go_wp2_with fail
        refine (CT.out _).mono ?_
        rintro e w' ⟨rfl, rfl⟩
        simp only [brE]
        go_wp2_with fail
        · exfalso
          simp_all
          omega
        refine HK.out _ _ ?_
        exact rec5 W0 W w' (r0 := W.heap.size) zg.out zr.out (by omega) zb.out (Nat.le_refl _) (by have := hrl.out; omega) HF.out.2.2.2.1 (by omega) hsz za.out (HF.out.2.2.2.2.2.1.keep zb.out.size (zb.out.block _ HF.out.2.2.2.2.2.1.sz (by omega))) us hus (HF.out.2.2.2.2.2.2 _ zb.out) _ hX.out
    · have hX : recd crcN (hasR us) rs = .bad := by unfold recd; rw [if_pos ⟨hl0, by rw [hkk.out]; exact hk⟩]
      rw [hX]
      have hk' : ((kk : Int) != 158) = true := by rw [bne, show ((158 : Int)) = ((158 : Nat) : Int) from rfl, beq_int]; simp [hk]
      go_wp2_with fail
      refine (CS.out _).mono ?_
      rintro e w' ⟨rfl, rfl⟩
      exact ⟨rfl, zb.out, rfl, zg.out⟩
  · have hX : recd crcN (hasR us) rs = .torn := by unfold recd; rw [if_neg (by rintro ⟨h, _⟩; exact hl0 h), if_pos (by omega)]
    rw [hX]
    have l0 : ¬ (0 : Int) < (rs.length : Int) := by omega
    have i18 : (rs.length : Int) < 18 := by omega
    go_wp2_with fail
    refine (CS.out _).mono ?_
    rintro e w' ⟨rfl, rfl⟩
    simp only [brE, if_false, Bool.false_eq_true]
    go_wp2_with fail
    refine (CT.out _).mono ?_
    rintro e w' ⟨rfl, rfl⟩
    exact ⟨rfl, zb.out, rfl, zg.out⟩
end Go.Proofs.YtfimaflglnemdaaDoor
