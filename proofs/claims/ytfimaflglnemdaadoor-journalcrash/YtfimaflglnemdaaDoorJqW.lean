/- Several texts in one: JdL, JdM. -/
import Derived.Test.YtfimaflglnemdaaDoorJqK
/- The journal's device: do. -/
namespace Go.Proofs.YtfimaflglnemdaaDoor.Dev
open Go.RowKit
set_option maxRecDepth 20000
theorem row6 (f : Array Value) (hf : f.size = 6) (a b : Value) : (f ++ #[a]).setIfInBounds 6 b = f ++ #[b] := by
  obtain ⟨l⟩ := f
  match l, hf with
  | [_, _, _, _, _, _], _ => rfl
theorem Dv.ownrow [Inhabited HoleT] {lo v : Nat} {W : World} {lv : Value} {f : Array Value} {ms : List (Array Value)} {sp : List Sp} (h : Dv lo W v lv f ms sp) {g : Nat} (hg : lv.ownBlock = some g) : g ≠ v ∧ lo ≤ g ∧ ∃ cur, W.heap[g]? = some (.cells cur 90 (0, 0)) := by
  rcases h.own.2 with ⟨h1, _⟩ | ⟨g', cap, cur, h1, h2, h3, _⟩
  · rw [h1] at hg; cases hg
  · rw [h1] at hg
    obtain rfl : g' = g := by simpa [Value.ownBlock] using hg
    refine ⟨fun e => ?_, h2, cur, h3⟩
    subst e
    have := h.row.symm.trans h3
    injection this with e1
    injection e1 with e1 e2
    cases e2
/-- One moment more on a device. -/
theorem Dv.more [Inhabited HoleT] {lo v : Nat} {W Z V : World} {lv v' : Value} {f m' : Array Value} {ms : List (Array Value)} {sp : List Sp} {x' : Sp} (h : Dv lo W v lv f ms sp) (hZ : Below W.heap.size W Z) (hm : Mo (fun g => Qd lo W v lv g ∨ W.heap.size ≤ g ∧ g < Z.heap.size) Z m' x') (ho : V.ownsRow lo 90 6 v' (ms.length + 1) (flat (ms ++ [m']))) (hg : (Z.alloc (.cells m' 90)).grownBy V lv.ownBlock) (hat : v'.ownBlock = lv.ownBlock ∨ v'.ownBlock = some (Z.heap.size + 1)) (hlo : lo ≤ W.heap.size) :
    V.cell? ⟨v, 6, none⟩ = some lv ∧ V.frozen? ⟨v, 6, none⟩ = false ∧ Dv lo (V.setCell ⟨v, 6, none⟩ v') v v' f (ms ++ [m']) (sp ++ [x']) ∧ Fr W (V.setCell ⟨v, 6, none⟩ v') v lv := by
  have hf : f.size = 6 := h.sz f List.mem_cons_self
  have hvW : v < W.heap.size := (Array.getElem?_eq_some_iff.1 h.row).1
  have hzs := hZ.size
  have hza : (Z.alloc (.cells m' 90)).heap.size = Z.heap.size + 1 := by simp
  have hzV : Z.heap.size + 1 ≤ V.heap.size := by have := hg.size; omega
  have kp : ∀ j, j < Z.heap.size → lv.ownBlock ≠ some j → V.heap[j]? = Z.heap[j]? := fun j hj hn => (hg.block j (by omega) (fun e => hn e.symm)).trans (heap_alloc_old _ _ (h := hj))
  have hvo : lv.ownBlock ≠ some v := fun e => (h.ownrow e).1 rfl
  have hvo' : v'.ownBlock ≠ some v := fun e => by
    rcases hat with q | q
    · exact hvo (q.symm.trans e)
    · rw [q] at e; injection e with e; omega
  have rV : V.heap[v]? = some (.cells (f ++ #[lv]) 93 (0, 0)) := (kp v (by omega) hvo).trans ((hZ.block v hvW).trans h.row)
  have c6 : V.cell? ⟨v, 6, none⟩ = some lv := by rw [cell_of_row _ _ _ _ _ _ rV, Array.getElem?_append_right (by omega), hf]; rfl
  have qd : ∀ g, Qd lo W v lv g ∨ W.heap.size ≤ g ∧ g < Z.heap.size → V.heap[g]? = Z.heap[g]? ∧ Qd lo (V.setCell ⟨v, 6, none⟩ v') v v' g := fun g hg2 => by
    have hgl : g < Z.heap.size := by rcases hg2 with q | q; exact Nat.lt_of_lt_of_le q.2.1 hzs; exact q.2
    have hgo : lv.ownBlock ≠ some g := by
      rcases hg2 with q | q
      · exact q.2.2.2
      · intro e
        have := (h.own.lt g e).2
        omega
    have hgv : g ≠ v := by rcases hg2 with q | q; exact q.2.2.1; omega
    refine ⟨kp g hgl hgo, ?_, ?_, hgv, fun e => ?_⟩
    · rcases hg2 with q | q
      · exact q.1
      · exact ⟨by omega, hole_ok (Nat.le_trans h.hb q.1)⟩
    · show g < (V.setCell _ _).heap.size
      simp
      omega
    · rcases hat with q | q
      · exact hgo (q.symm.trans e)
      · rw [q] at e; injection e with e; omega
  have oth : ∀ j, j ≠ v → (V.setCell ⟨v, 6, none⟩ v').heap[j]? = V.heap[j]? := fun j hj => heap_setCell_other _ _ _ _ (by show j ≠ v; exact hj)
  refine ⟨c6, frozen_of_row _ _ _ _ _ rV, ⟨?_, ?_, by rw [List.length_append, List.length_append, h.len]; rfl, fun i m s h1 h2 => ?_, h.lov, by have := h.hb; simp; omega⟩, ?_⟩
  · refine (heap_setCell_same _ _ _ _ _ _ rV).trans ?_
    rw [row6 f hf]
  · rw [List.length_append]
    obtain ⟨h0, h1⟩ := ho
    refine ⟨h0, ?_⟩
    rcases h1 with h1 | ⟨g, cap, cur, rfl, hB, hg2, hr⟩
    · exact .inl h1
    · exact .inr ⟨g, cap, cur, rfl, hB, (oth g (fun e => hvo' (by rw [e]; rfl))).trans hg2, hr⟩
  · rcases Nat.lt_or_ge i (ms.length + 1) with hi | hi
    · have e1 : (f :: ms)[i]? = some m := by
        rw [← List.cons_append, List.getElem?_append_left (by simpa using hi)] at h1
        exact h1
      have e2 : sp[i]? = some s := by rwa [List.getElem?_append_left (by rw [h.len]; exact hi)] at h2
      exact (h.each i m s e1 e2).keep (fun j hj => (oth j hj.2.2.1).trans ((qd j (.inl hj)).1.trans (hZ.block j hj.2.1))) (fun j hj => (qd j (.inl hj)).2)
    · have hi2 : i = ms.length + 1 := by
        have := (List.getElem?_eq_some_iff.1 h1).1
        simp at this
        omega
      subst hi2
      obtain rfl : m' = m := by
        rw [← List.cons_append, List.getElem?_append_right (by simp)] at h1
        simpa using h1
      obtain rfl : x' = s := by
        rw [List.getElem?_append_right (by rw [h.len]; exact Nat.le_refl _), h.len] at h2
        simpa using h2
      exact hm.keep (fun j hj => (oth j (qd j hj).2.2.2.1).trans (qd j hj).1) (fun j hj => (qd j hj).2)
  · have b1 : Below 0 Z (Z.alloc (.cells m' 90)) := (Below.refl 0 Z).alloc (Nat.zero_le _) _
    have b2 : Below 0 V (V.setCell ⟨v, 6, none⟩ v') := (Below.refl 0 V).setCell (Nat.zero_le _) _
    refine ⟨b2.os.trans (hg.os.trans (b1.os.trans hZ.os)), b2.tape.trans (hg.tape.trans (b1.tape.trans hZ.tape)), b2.output.trans (hg.output.trans (b1.output.trans hZ.output)), by simp; omega, fun j hj hn ho => (oth j hn).trans ((kp j (by omega) ho).trans (hZ.block j hj))⟩
/-- What an operation leaves. -/
def DoP [Inhabited HoleT] (lo : Nat) (W : World) (v : Nat) (lv : Value) (f : Array Value) (ms : List (Array Value)) (sp : List Sp) (x' : Sp) (e : Ending) (w' : World) : Prop := e = .returned (.int .i64 0) ∧ ∃ lv' m', Dv lo w' v lv' f (ms ++ [m']) (sp ++ [x']) ∧ Fr W w' v lv
section
attribute [local go_sem ↓] toStC toLdM toApM
set_option maxRecDepth 100000 in
set_option maxHeartbeats 3200000 in
theorem do_sync0 [Inhabited HoleT] {lo v : Nat} {W : World} {lv : Value} {f : Array Value} {ms : List (Array Value)} {sp : List Sp} (h : Dv lo W v lv f ms sp) (hlo : lo ≤ W.heap.size) (x : Sp) (hx : sp[ms.length]? = some x) (hbig : ms.length < 1000000) (_pb : Nat) (z : List Nat × Nat)
    (hcl : ∀ (Q : Nat → Prop) (c : Array Value) (Y : World), Below W.heap.size W Y → (∀ j, Q j → j < Y.heap.size) → Cn Q Y c x.1.1 x.1.2 → Calls Tryd.prog 60 #[.agg c] Y (ClP Q Y z)) : Calls Tryd.prog 58 #[.pointer (some ⟨v, 0, none⟩), .int .i64 0, .func (.func 60) #[] #[]] W (DoP lo W v lv f ms sp (z, x.2)) := by
  have C1 : Hid _ := count_any h
  have C2 : Hid _ := at_any h ms.length x hx (by omega)
  have HD : Hid (Dv lo W v lv f ms sp ∧ lo ≤ W.heap.size ∧ ms.length < 1000000) := ⟨h, hlo, hbig⟩
  have HCL : Hid _ := hcl
  obtain ⟨oV, cV, hlv, -⟩ := h.vsl
  subst hlv
  clear h hx hcl hbig hlo
  go_enter Tryd.func58, Tryd.ntmps58
  go_wp2_with fail
  refine Calls.mono C1.out ?_
  rintro e w' ⟨rfl, hw⟩
  have hw2 := hw.symm
  subst hw2
  go_wp2_with fail
  refine Calls.mono C2.out ?_
  rintro e X ⟨m, rfl, hm, hX⟩
  obtain ⟨p0, p1, rfl, hc0, hc1⟩ := id hm
  obtain ⟨n0, hn0⟩ : ∃ n, x.1.1.length = n := ⟨_, rfl⟩
  obtain ⟨n1, hn1⟩ : ∃ n, x.2.1.length = n := ⟨_, rfl⟩
  obtain ⟨s0, hs0⟩ : ∃ n, x.1.2 = n := ⟨_, rfl⟩
  obtain ⟨s1, hs1⟩ : ∃ n, x.2.2 = n := ⟨_, rfl⟩
  have HX : Hid (Below W.heap.size W X) := hX
  have HN : Hid (x.1.1.length = n0 ∧ x.2.1.length = n1 ∧ x.1.2 = s0 ∧ x.2.2 = s1) := ⟨hn0, hn1, hs0, hs1⟩
  have HC0 : Hid (Cn (Qd lo W v (.slice oV ms.length cV)) X (cnA p0 x.1.1.length x.1.2) x.1.1 x.1.2) := hc0
  have HC1 : Hid (Cn (Qd lo W v (.slice oV ms.length cV)) X (cnA p1 x.2.1.length x.2.2) x.2.1 x.2.2) := hc1
  have hQ : ∀ j, Qd lo W v (.slice oV ms.length cV) j → j < X.heap.size := fun j hj => Nat.lt_of_lt_of_le hj.2.1 hX.size
  have bA : ∀ o, Below W.heap.size W (X.alloc o) := fun o => hX.alloc hX.size o
  have C3 : Hid _ := HCL.out (Qd lo W v (.slice oV ms.length cV)) (cnA p0 x.1.1.length x.1.2) (X.alloc (.cells (momA p0 n0 s0 p1 n1 s1) 90)) (bA _) (fun j hj => by have := hQ j hj; simp; omega) (hc0.keep (fun j hj => heap_alloc_old _ _ (h := hQ j hj)) (fun _ h => h))
  have HQ : Hid _ := hQ
  rw [hn0, hn1, hs0, hs1]
  rw [hn0, hs0] at C3
  clear hm hc0 hc1 hn0 hn1 hs0 hs1 hX C1 C2 bA hQ
  unfold momA cnA at *
  go_wp2_with fail
  refine Calls.mono C3.out ?_
  rintro e Y ⟨c', rfl, hcY, hY⟩
  obtain ⟨pc, rfl, -⟩ := id hcY
  obtain ⟨nc, hnc⟩ : ∃ n, z.1.length = n := ⟨_, rfl⟩
  obtain ⟨sc, hsc⟩ : ∃ n, z.2 = n := ⟨_, rfl⟩
  have hzX : X.heap.size + 1 ≤ Y.heap.size := by have := hY.size; simpa using this
  have kY : ∀ j, j < X.heap.size + 1 → Y.heap[j]? = (X.alloc (.cells (momA p0 n0 s0 p1 n1 s1) 90)).heap[j]? := fun j hj => hY.block j (by simp; omega)
  have rY : (Y.alloc (.cells (cnA pc nc sc) 88)).heap[X.heap.size]? = some (.cells (momA p0 n0 s0 p1 n1 s1) 90 (0, 0)) := (heap_alloc_old _ _ (h := by omega)).trans ((kY _ (by omega)).trans (heap_alloc_new _ _))
  have hst1 := stc_new Y pc nc sc
  have hst2 := st_C0 (Y.alloc (.cells (cnA pc nc sc) 88)) X.heap.size (.pointer pc) (.int .i64 (nc : Int)) (.int .i64 (sc : Int)) _ _ _ _ _ _ (by simp [Value.oneCell']) rY
  obtain ⟨Z, hZ⟩ : ∃ Z, (Y.alloc (.cells (cnA pc nc sc) 88)).setRow X.heap.size #[.pointer pc, .int .i64 (nc : Int), .int .i64 (sc : Int), .pointer p1, .int .i64 (n1 : Int), .int .i64 (s1 : Int)] = Z := ⟨_, rfl⟩
  have hZs : Z.heap.size = Y.heap.size + 1 := by rw [← hZ]; simp
  have rZ : Z.heap[X.heap.size]? = some (.cells #[.pointer pc, .int .i64 (nc : Int), .int .i64 (sc : Int), .pointer p1, .int .i64 (n1 : Int), .int .i64 (s1 : Int)] 90 (0, 0)) := by rw [← hZ]; exact setRow_heap _ _ _ _ _ _ rY
  have oZ : ∀ j, j < Y.heap.size → j ≠ X.heap.size → Z.heap[j]? = Y.heap[j]? := fun j hj hn => by rw [← hZ]; exact (setRow_other _ _ _ _ hn).trans (heap_alloc_old _ _ (h := hj))
  have hXs := HX.out.size
  have bZ : Below W.heap.size W Z := by
    have bY : Below W.heap.size W (Y.alloc (.cells (cnA pc nc sc) 88)) := ((HX.out.alloc HX.out.size _).trans (hY.mono (by simp; omega))).alloc (by omega) _
    rw [← hZ]
    exact below_setRow bY (by omega) _
  have hMo : Mo (fun g => Qd lo W v (.slice oV ms.length cV) g ∨ W.heap.size ≤ g ∧ g < Z.heap.size) Z #[.pointer pc, .int .i64 (nc : Int), .int .i64 (sc : Int), .pointer p1, .int .i64 (n1 : Int), .int .i64 (s1 : Int)] (z, x.2) := by
    have e1 := hcY.keep (Q' := fun g => Qd lo W v (.slice oV ms.length cV) g ∨ W.heap.size ≤ g ∧ g < Z.heap.size) (W' := Z) (fun j hj => oZ j (by rcases hj with q | q; have := HQ.out j q; omega; exact q.2) (by rcases hj with q | q; have := HQ.out j q; omega; have := q.1; simp at this; omega)) (fun j hj => by rcases hj with q | q; exact .inl q; exact .inr ⟨by have := q.1; simp at this; omega, by omega⟩)
    have e2 := HC1.out.keep (Q' := fun g => Qd lo W v (.slice oV ms.length cV) g ∨ W.heap.size ≤ g ∧ g < Z.heap.size) (W' := Z) (fun j hj => (oZ j (by have := HQ.out j hj; omega) (by have := HQ.out j hj; omega)).trans ((kY j (by have := HQ.out j hj; omega)).trans (heap_alloc_old _ _ (h := HQ.out j hj)))) (fun j hj => .inl hj)
    refine ⟨pc, p1, ?_, e1, e2⟩
    show _ = momA _ z.1.length z.2 _ x.2.1.length x.2.2
    rw [hnc, hsc, HN.out.2.1, HN.out.2.2.2]
    rfl
  have bZ' : Below W.heap.size W Z.drew := ⟨bZ.os, bZ.tape, bZ.output, bZ.size, bZ.block⟩
  have hMo' := Mo.keep (W := Z) (W' := Z.drew) (Q' := fun g => Qd lo W v (.slice oV ms.length cV) g ∨ W.heap.size ≤ g ∧ g < Z.drew.heap.size) (fun _ _ => rfl) (fun _ h => h) hMo
  obtain ⟨v', V, hr, ho, hg, hat⟩ := run_apM1 Z.drew lo ms.length (.slice oV ms.length cV) ms #[.pointer pc, .int .i64 (nc : Int), .int .i64 (sc : Int), .pointer p1, .int .i64 (n1 : Int), .int .i64 (s1 : Int)] (HD.out.1.below bZ').own rfl (by simp [Value.oneCell']) (by have := HD.out.2.2; omega) (by have := HD.out.2.1; have := bZ'.size; omega)
  obtain ⟨g6, f6, hD2, hF2⟩ := HD.out.1.more bZ' hMo' ho hg hat HD.out.2.1
  have HFIN : Hid (Dv lo (V.setCell ⟨v, 6, none⟩ v') v v' f (ms ++ [#[.pointer pc, .int .i64 (nc : Int), .int .i64 (sc : Int), .pointer p1, .int .i64 (n1 : Int), .int .i64 (s1 : Int)]]) (sp ++ [(z, x.2)]) ∧ Fr W (V.setCell ⟨v, 6, none⟩ v') v (.slice oV ms.length cV)) := ⟨hD2, hF2⟩
  obtain ⟨o', n', c', hv'⟩ := own_sl ho
  subst hv'
  have c6 : Z.drew.cell? ⟨v, 6, none⟩ = some (.slice oV ms.length cV) := (HD.out.1.below bZ').cell6
  have c6' : (Z.alloc (.cells #[.pointer pc, .int .i64 (nc : Int), .int .i64 (sc : Int), .pointer p1, .int .i64 (n1 : Int), .int .i64 (s1 : Int)] 90)).drew.cell? ⟨v, 6, none⟩ = some (.slice oV ms.length cV) := below_cell ((Below.refl _ Z).alloc (Nat.le_refl _) _) (HD.out.1.below bZ).cell6
  have ldM2 := ld_Mrow Z.drew X.heap.size #[.pointer pc, .int .i64 (nc : Int), .int .i64 (sc : Int), .pointer p1, .int .i64 (n1 : Int), .int .i64 (s1 : Int)] rfl rZ
  have hr2 : (apM 91 #[.slice oV ms.length cV, .slice (some ⟨Z.heap.size, 0, none⟩) 1 1]).run Tryd.prog (Z.alloc (.cells #[.pointer pc, .int .i64 (nc : Int), .int .i64 (sc : Int), .pointer p1, .int .i64 (n1 : Int), .int .i64 (s1 : Int)] 90)).drew = .ok (.slice o' n' c') V := hr
  rw [hZ] at hst2
  rw [hnc, hsc]
  clear hcY hY hnc hsc hzX kY rY hZ hZs rZ oZ hXs bZ hMo bZ' hMo' hr ho hg hat hD2 hF2 C3
  unfold cnA at *
  go_wp2_with fail
  go_region
  go_wp2_with fail
  go_ret
  exact ⟨rfl, _, _, HFIN.out.1, HFIN.out.2⟩
set_option maxRecDepth 100000 in
set_option maxHeartbeats 3200000 in
theorem do_sync1 [Inhabited HoleT] {lo v : Nat} {W : World} {lv : Value} {f : Array Value} {ms : List (Array Value)} {sp : List Sp} (h : Dv lo W v lv f ms sp) (hlo : lo ≤ W.heap.size) (x : Sp) (hx : sp[ms.length]? = some x) (hbig : ms.length < 1000000) (_pb : Nat) (z : List Nat × Nat)
    (hcl : ∀ (Q : Nat → Prop) (c : Array Value) (Y : World), Below W.heap.size W Y → (∀ j, Q j → j < Y.heap.size) → Cn Q Y c x.2.1 x.2.2 → Calls Tryd.prog 60 #[.agg c] Y (ClP Q Y z)) : Calls Tryd.prog 58 #[.pointer (some ⟨v, 0, none⟩), .int .i64 1, .func (.func 60) #[] #[]] W (DoP lo W v lv f ms sp (x.1, z)) := by
  have C1 : Hid _ := count_any h
  have C2 : Hid _ := at_any h ms.length x hx (by omega)
  have HD : Hid (Dv lo W v lv f ms sp ∧ lo ≤ W.heap.size ∧ ms.length < 1000000) := ⟨h, hlo, hbig⟩
  have HCL : Hid _ := hcl
  obtain ⟨oV, cV, hlv, -⟩ := h.vsl
  subst hlv
  clear h hx hcl hbig hlo
  go_enter Tryd.func58, Tryd.ntmps58
  go_wp2_with fail
  refine Calls.mono C1.out ?_
  rintro e w' ⟨rfl, hw⟩
  have hw2 := hw.symm
  subst hw2
  go_wp2_with fail
  refine Calls.mono C2.out ?_
  rintro e X ⟨m, rfl, hm, hX⟩
  obtain ⟨p0, p1, rfl, hc0, hc1⟩ := id hm
  obtain ⟨n0, hn0⟩ : ∃ n, x.1.1.length = n := ⟨_, rfl⟩
  obtain ⟨n1, hn1⟩ : ∃ n, x.2.1.length = n := ⟨_, rfl⟩
  obtain ⟨s0, hs0⟩ : ∃ n, x.1.2 = n := ⟨_, rfl⟩
  obtain ⟨s1, hs1⟩ : ∃ n, x.2.2 = n := ⟨_, rfl⟩
  have HX : Hid (Below W.heap.size W X) := hX
  have HN : Hid (x.1.1.length = n0 ∧ x.2.1.length = n1 ∧ x.1.2 = s0 ∧ x.2.2 = s1) := ⟨hn0, hn1, hs0, hs1⟩
  have HC0 : Hid (Cn (Qd lo W v (.slice oV ms.length cV)) X (cnA p0 x.1.1.length x.1.2) x.1.1 x.1.2) := hc0
  have HC1 : Hid (Cn (Qd lo W v (.slice oV ms.length cV)) X (cnA p1 x.2.1.length x.2.2) x.2.1 x.2.2) := hc1
  have hQ : ∀ j, Qd lo W v (.slice oV ms.length cV) j → j < X.heap.size := fun j hj => Nat.lt_of_lt_of_le hj.2.1 hX.size
  have bA : ∀ o, Below W.heap.size W (X.alloc o) := fun o => hX.alloc hX.size o
  have C3 : Hid _ := HCL.out (Qd lo W v (.slice oV ms.length cV)) (cnA p1 x.2.1.length x.2.2) (X.alloc (.cells (momA p0 n0 s0 p1 n1 s1) 90)) (bA _) (fun j hj => by have := hQ j hj; simp; omega) (hc1.keep (fun j hj => heap_alloc_old _ _ (h := hQ j hj)) (fun _ h => h))
  have HQ : Hid _ := hQ
  rw [hn0, hn1, hs0, hs1]
  rw [hn1, hs1] at C3
  clear hm hc0 hc1 hn0 hn1 hs0 hs1 hX C1 C2 bA hQ
  unfold momA cnA at *
  go_wp2_with fail
  refine Calls.mono C3.out ?_
  rintro e Y ⟨c', rfl, hcY, hY⟩
  obtain ⟨pc, rfl, -⟩ := id hcY
  obtain ⟨nc, hnc⟩ : ∃ n, z.1.length = n := ⟨_, rfl⟩
  obtain ⟨sc, hsc⟩ : ∃ n, z.2 = n := ⟨_, rfl⟩
  have hzX : X.heap.size + 1 ≤ Y.heap.size := by have := hY.size; simpa using this
  have kY : ∀ j, j < X.heap.size + 1 → Y.heap[j]? = (X.alloc (.cells (momA p0 n0 s0 p1 n1 s1) 90)).heap[j]? := fun j hj => hY.block j (by simp; omega)
  have rY : (Y.alloc (.cells (cnA pc nc sc) 88)).heap[X.heap.size]? = some (.cells (momA p0 n0 s0 p1 n1 s1) 90 (0, 0)) := (heap_alloc_old _ _ (h := by omega)).trans ((kY _ (by omega)).trans (heap_alloc_new _ _))
  have hst1 := stc_new Y pc nc sc
  have hst2 := st_C1 (Y.alloc (.cells (cnA pc nc sc) 88)) X.heap.size (.pointer pc) (.int .i64 (nc : Int)) (.int .i64 (sc : Int)) _ _ _ _ _ _ (by simp [Value.oneCell']) rY
  obtain ⟨Z, hZ⟩ : ∃ Z, (Y.alloc (.cells (cnA pc nc sc) 88)).setRow X.heap.size #[.pointer p0, .int .i64 (n0 : Int), .int .i64 (s0 : Int), .pointer pc, .int .i64 (nc : Int), .int .i64 (sc : Int)] = Z := ⟨_, rfl⟩
  have hZs : Z.heap.size = Y.heap.size + 1 := by rw [← hZ]; simp
  have rZ : Z.heap[X.heap.size]? = some (.cells #[.pointer p0, .int .i64 (n0 : Int), .int .i64 (s0 : Int), .pointer pc, .int .i64 (nc : Int), .int .i64 (sc : Int)] 90 (0, 0)) := by rw [← hZ]; exact setRow_heap _ _ _ _ _ _ rY
  have oZ : ∀ j, j < Y.heap.size → j ≠ X.heap.size → Z.heap[j]? = Y.heap[j]? := fun j hj hn => by rw [← hZ]; exact (setRow_other _ _ _ _ hn).trans (heap_alloc_old _ _ (h := hj))
  have hXs := HX.out.size
  have bZ : Below W.heap.size W Z := by
    have bY : Below W.heap.size W (Y.alloc (.cells (cnA pc nc sc) 88)) := ((HX.out.alloc HX.out.size _).trans (hY.mono (by simp; omega))).alloc (by omega) _
    rw [← hZ]
    exact below_setRow bY (by omega) _
  have hMo : Mo (fun g => Qd lo W v (.slice oV ms.length cV) g ∨ W.heap.size ≤ g ∧ g < Z.heap.size) Z #[.pointer p0, .int .i64 (n0 : Int), .int .i64 (s0 : Int), .pointer pc, .int .i64 (nc : Int), .int .i64 (sc : Int)] (x.1, z) := by
    have e1 := hcY.keep (Q' := fun g => Qd lo W v (.slice oV ms.length cV) g ∨ W.heap.size ≤ g ∧ g < Z.heap.size) (W' := Z) (fun j hj => oZ j (by rcases hj with q | q; have := HQ.out j q; omega; exact q.2) (by rcases hj with q | q; have := HQ.out j q; omega; have := q.1; simp at this; omega)) (fun j hj => by rcases hj with q | q; exact .inl q; exact .inr ⟨by have := q.1; simp at this; omega, by omega⟩)
    have e2 := HC0.out.keep (Q' := fun g => Qd lo W v (.slice oV ms.length cV) g ∨ W.heap.size ≤ g ∧ g < Z.heap.size) (W' := Z) (fun j hj => (oZ j (by have := HQ.out j hj; omega) (by have := HQ.out j hj; omega)).trans ((kY j (by have := HQ.out j hj; omega)).trans (heap_alloc_old _ _ (h := HQ.out j hj)))) (fun j hj => .inl hj)
    refine ⟨p0, pc, ?_, e2, e1⟩
    show _ = momA _ x.1.1.length x.1.2 _ z.1.length z.2
    rw [hnc, hsc, HN.out.1, HN.out.2.2.1]
    rfl
  have bZ' : Below W.heap.size W Z.drew := ⟨bZ.os, bZ.tape, bZ.output, bZ.size, bZ.block⟩
  have hMo' := Mo.keep (W := Z) (W' := Z.drew) (Q' := fun g => Qd lo W v (.slice oV ms.length cV) g ∨ W.heap.size ≤ g ∧ g < Z.drew.heap.size) (fun _ _ => rfl) (fun _ h => h) hMo
  obtain ⟨v', V, hr, ho, hg, hat⟩ := run_apM1 Z.drew lo ms.length (.slice oV ms.length cV) ms #[.pointer p0, .int .i64 (n0 : Int), .int .i64 (s0 : Int), .pointer pc, .int .i64 (nc : Int), .int .i64 (sc : Int)] (HD.out.1.below bZ').own rfl (by simp [Value.oneCell']) (by have := HD.out.2.2; omega) (by have := HD.out.2.1; have := bZ'.size; omega)
  obtain ⟨g6, f6, hD2, hF2⟩ := HD.out.1.more bZ' hMo' ho hg hat HD.out.2.1
  have HFIN : Hid (Dv lo (V.setCell ⟨v, 6, none⟩ v') v v' f (ms ++ [#[.pointer p0, .int .i64 (n0 : Int), .int .i64 (s0 : Int), .pointer pc, .int .i64 (nc : Int), .int .i64 (sc : Int)]]) (sp ++ [(x.1, z)]) ∧ Fr W (V.setCell ⟨v, 6, none⟩ v') v (.slice oV ms.length cV)) := ⟨hD2, hF2⟩
  obtain ⟨o', n', c', hv'⟩ := own_sl ho
  subst hv'
  have c6 : Z.drew.cell? ⟨v, 6, none⟩ = some (.slice oV ms.length cV) := (HD.out.1.below bZ').cell6
  have c6' : (Z.alloc (.cells #[.pointer p0, .int .i64 (n0 : Int), .int .i64 (s0 : Int), .pointer pc, .int .i64 (nc : Int), .int .i64 (sc : Int)] 90)).drew.cell? ⟨v, 6, none⟩ = some (.slice oV ms.length cV) := below_cell ((Below.refl _ Z).alloc (Nat.le_refl _) _) (HD.out.1.below bZ).cell6
  have ldM2 := ld_Mrow Z.drew X.heap.size #[.pointer p0, .int .i64 (n0 : Int), .int .i64 (s0 : Int), .pointer pc, .int .i64 (nc : Int), .int .i64 (sc : Int)] rfl rZ
  have hr2 : (apM 91 #[.slice oV ms.length cV, .slice (some ⟨Z.heap.size, 0, none⟩) 1 1]).run Tryd.prog (Z.alloc (.cells #[.pointer p0, .int .i64 (n0 : Int), .int .i64 (s0 : Int), .pointer pc, .int .i64 (nc : Int), .int .i64 (sc : Int)] 90)).drew = .ok (.slice o' n' c') V := hr
  rw [hZ] at hst2
  rw [hnc, hsc]
  clear hcY hY hnc hsc hzX kY rY hZ hZs rZ oZ hXs bZ hMo bZ' hMo' hr ho hg hat hD2 hF2 C3
  unfold cnA at *
  go_wp2_with fail
  go_region
  go_wp2_with fail
  go_ret
  exact ⟨rfl, _, _, HFIN.out.1, HFIN.out.2⟩
set_option maxRecDepth 100000 in
set_option maxHeartbeats 3200000 in
theorem do_app0 [Inhabited HoleT] {lo v : Nat} {W : World} {lv : Value} {f : Array Value} {ms : List (Array Value)} {sp : List Sp} (h : Dv lo W v lv f ms sp) (hlo : lo ≤ W.heap.size) (x : Sp) (hx : sp[ms.length]? = some x) (hbig : ms.length < 1000000) (pb : Nat) (z : List Nat × Nat)
    (hcl : ∀ (Q : Nat → Prop) (c : Array Value) (Y : World), Below W.heap.size W Y → (∀ j, Q j → j < Y.heap.size) → Cn Q Y c x.1.1 x.1.2 → Calls Tryd.prog 59 #[.agg c, .pointer (some ⟨pb, 0, none⟩)] Y (ClP Q Y z)) : Calls Tryd.prog 58 #[.pointer (some ⟨v, 0, none⟩), .int .i64 0, .func (.func 59) #[] #[.pointer (some ⟨pb, 0, none⟩)]] W (DoP lo W v lv f ms sp (z, x.2)) := by
  have C1 : Hid _ := count_any h
  have C2 : Hid _ := at_any h ms.length x hx (by omega)
  have HD : Hid (Dv lo W v lv f ms sp ∧ lo ≤ W.heap.size ∧ ms.length < 1000000) := ⟨h, hlo, hbig⟩
  have HCL : Hid _ := hcl
  obtain ⟨oV, cV, hlv, -⟩ := h.vsl
  subst hlv
  clear h hx hcl hbig hlo
  go_enter Tryd.func58, Tryd.ntmps58
  go_wp2_with fail
  refine Calls.mono C1.out ?_
  rintro e w' ⟨rfl, hw⟩
  have hw2 := hw.symm
  subst hw2
  go_wp2_with fail
  refine Calls.mono C2.out ?_
  rintro e X ⟨m, rfl, hm, hX⟩
  obtain ⟨p0, p1, rfl, hc0, hc1⟩ := id hm
  obtain ⟨n0, hn0⟩ : ∃ n, x.1.1.length = n := ⟨_, rfl⟩
  obtain ⟨n1, hn1⟩ : ∃ n, x.2.1.length = n := ⟨_, rfl⟩
  obtain ⟨s0, hs0⟩ : ∃ n, x.1.2 = n := ⟨_, rfl⟩
  obtain ⟨s1, hs1⟩ : ∃ n, x.2.2 = n := ⟨_, rfl⟩
  have HX : Hid (Below W.heap.size W X) := hX
  have HN : Hid (x.1.1.length = n0 ∧ x.2.1.length = n1 ∧ x.1.2 = s0 ∧ x.2.2 = s1) := ⟨hn0, hn1, hs0, hs1⟩
  have HC0 : Hid (Cn (Qd lo W v (.slice oV ms.length cV)) X (cnA p0 x.1.1.length x.1.2) x.1.1 x.1.2) := hc0
  have HC1 : Hid (Cn (Qd lo W v (.slice oV ms.length cV)) X (cnA p1 x.2.1.length x.2.2) x.2.1 x.2.2) := hc1
  have hQ : ∀ j, Qd lo W v (.slice oV ms.length cV) j → j < X.heap.size := fun j hj => Nat.lt_of_lt_of_le hj.2.1 hX.size
  have bA : ∀ o, Below W.heap.size W (X.alloc o) := fun o => hX.alloc hX.size o
  have C3 : Hid _ := HCL.out (Qd lo W v (.slice oV ms.length cV)) (cnA p0 x.1.1.length x.1.2) (X.alloc (.cells (momA p0 n0 s0 p1 n1 s1) 90)) (bA _) (fun j hj => by have := hQ j hj; simp; omega) (hc0.keep (fun j hj => heap_alloc_old _ _ (h := hQ j hj)) (fun _ h => h))
  have HQ : Hid _ := hQ
  rw [hn0, hn1, hs0, hs1]
  rw [hn0, hs0] at C3
  clear hm hc0 hc1 hn0 hn1 hs0 hs1 hX C1 C2 bA hQ
  unfold momA cnA at *
  go_wp2_with fail
  refine Calls.mono C3.out ?_
  rintro e Y ⟨c', rfl, hcY, hY⟩
  obtain ⟨pc, rfl, -⟩ := id hcY
  obtain ⟨nc, hnc⟩ : ∃ n, z.1.length = n := ⟨_, rfl⟩
  obtain ⟨sc, hsc⟩ : ∃ n, z.2 = n := ⟨_, rfl⟩
  have hzX : X.heap.size + 1 ≤ Y.heap.size := by have := hY.size; simpa using this
  have kY : ∀ j, j < X.heap.size + 1 → Y.heap[j]? = (X.alloc (.cells (momA p0 n0 s0 p1 n1 s1) 90)).heap[j]? := fun j hj => hY.block j (by simp; omega)
  have rY : (Y.alloc (.cells (cnA pc nc sc) 88)).heap[X.heap.size]? = some (.cells (momA p0 n0 s0 p1 n1 s1) 90 (0, 0)) := (heap_alloc_old _ _ (h := by omega)).trans ((kY _ (by omega)).trans (heap_alloc_new _ _))
  have hst1 := stc_new Y pc nc sc
  have hst2 := st_C0 (Y.alloc (.cells (cnA pc nc sc) 88)) X.heap.size (.pointer pc) (.int .i64 (nc : Int)) (.int .i64 (sc : Int)) _ _ _ _ _ _ (by simp [Value.oneCell']) rY
  obtain ⟨Z, hZ⟩ : ∃ Z, (Y.alloc (.cells (cnA pc nc sc) 88)).setRow X.heap.size #[.pointer pc, .int .i64 (nc : Int), .int .i64 (sc : Int), .pointer p1, .int .i64 (n1 : Int), .int .i64 (s1 : Int)] = Z := ⟨_, rfl⟩
  have hZs : Z.heap.size = Y.heap.size + 1 := by rw [← hZ]; simp
  have rZ : Z.heap[X.heap.size]? = some (.cells #[.pointer pc, .int .i64 (nc : Int), .int .i64 (sc : Int), .pointer p1, .int .i64 (n1 : Int), .int .i64 (s1 : Int)] 90 (0, 0)) := by rw [← hZ]; exact setRow_heap _ _ _ _ _ _ rY
  have oZ : ∀ j, j < Y.heap.size → j ≠ X.heap.size → Z.heap[j]? = Y.heap[j]? := fun j hj hn => by rw [← hZ]; exact (setRow_other _ _ _ _ hn).trans (heap_alloc_old _ _ (h := hj))
  have hXs := HX.out.size
  have bZ : Below W.heap.size W Z := by
    have bY : Below W.heap.size W (Y.alloc (.cells (cnA pc nc sc) 88)) := ((HX.out.alloc HX.out.size _).trans (hY.mono (by simp; omega))).alloc (by omega) _
    rw [← hZ]
    exact below_setRow bY (by omega) _
  have hMo : Mo (fun g => Qd lo W v (.slice oV ms.length cV) g ∨ W.heap.size ≤ g ∧ g < Z.heap.size) Z #[.pointer pc, .int .i64 (nc : Int), .int .i64 (sc : Int), .pointer p1, .int .i64 (n1 : Int), .int .i64 (s1 : Int)] (z, x.2) := by
    have e1 := hcY.keep (Q' := fun g => Qd lo W v (.slice oV ms.length cV) g ∨ W.heap.size ≤ g ∧ g < Z.heap.size) (W' := Z) (fun j hj => oZ j (by rcases hj with q | q; have := HQ.out j q; omega; exact q.2) (by rcases hj with q | q; have := HQ.out j q; omega; have := q.1; simp at this; omega)) (fun j hj => by rcases hj with q | q; exact .inl q; exact .inr ⟨by have := q.1; simp at this; omega, by omega⟩)
    have e2 := HC1.out.keep (Q' := fun g => Qd lo W v (.slice oV ms.length cV) g ∨ W.heap.size ≤ g ∧ g < Z.heap.size) (W' := Z) (fun j hj => (oZ j (by have := HQ.out j hj; omega) (by have := HQ.out j hj; omega)).trans ((kY j (by have := HQ.out j hj; omega)).trans (heap_alloc_old _ _ (h := HQ.out j hj)))) (fun j hj => .inl hj)
    refine ⟨pc, p1, ?_, e1, e2⟩
    show _ = momA _ z.1.length z.2 _ x.2.1.length x.2.2
    rw [hnc, hsc, HN.out.2.1, HN.out.2.2.2]
    rfl
  have bZ' : Below W.heap.size W Z.drew := ⟨bZ.os, bZ.tape, bZ.output, bZ.size, bZ.block⟩
  have hMo' := Mo.keep (W := Z) (W' := Z.drew) (Q' := fun g => Qd lo W v (.slice oV ms.length cV) g ∨ W.heap.size ≤ g ∧ g < Z.drew.heap.size) (fun _ _ => rfl) (fun _ h => h) hMo
  obtain ⟨v', V, hr, ho, hg, hat⟩ := run_apM1 Z.drew lo ms.length (.slice oV ms.length cV) ms #[.pointer pc, .int .i64 (nc : Int), .int .i64 (sc : Int), .pointer p1, .int .i64 (n1 : Int), .int .i64 (s1 : Int)] (HD.out.1.below bZ').own rfl (by simp [Value.oneCell']) (by have := HD.out.2.2; omega) (by have := HD.out.2.1; have := bZ'.size; omega)
  obtain ⟨g6, f6, hD2, hF2⟩ := HD.out.1.more bZ' hMo' ho hg hat HD.out.2.1
  have HFIN : Hid (Dv lo (V.setCell ⟨v, 6, none⟩ v') v v' f (ms ++ [#[.pointer pc, .int .i64 (nc : Int), .int .i64 (sc : Int), .pointer p1, .int .i64 (n1 : Int), .int .i64 (s1 : Int)]]) (sp ++ [(z, x.2)]) ∧ Fr W (V.setCell ⟨v, 6, none⟩ v') v (.slice oV ms.length cV)) := ⟨hD2, hF2⟩
  obtain ⟨o', n', c', hv'⟩ := own_sl ho
  subst hv'
  have c6 : Z.drew.cell? ⟨v, 6, none⟩ = some (.slice oV ms.length cV) := (HD.out.1.below bZ').cell6
  have c6' : (Z.alloc (.cells #[.pointer pc, .int .i64 (nc : Int), .int .i64 (sc : Int), .pointer p1, .int .i64 (n1 : Int), .int .i64 (s1 : Int)] 90)).drew.cell? ⟨v, 6, none⟩ = some (.slice oV ms.length cV) := below_cell ((Below.refl _ Z).alloc (Nat.le_refl _) _) (HD.out.1.below bZ).cell6
  have ldM2 := ld_Mrow Z.drew X.heap.size #[.pointer pc, .int .i64 (nc : Int), .int .i64 (sc : Int), .pointer p1, .int .i64 (n1 : Int), .int .i64 (s1 : Int)] rfl rZ
  have hr2 : (apM 91 #[.slice oV ms.length cV, .slice (some ⟨Z.heap.size, 0, none⟩) 1 1]).run Tryd.prog (Z.alloc (.cells #[.pointer pc, .int .i64 (nc : Int), .int .i64 (sc : Int), .pointer p1, .int .i64 (n1 : Int), .int .i64 (s1 : Int)] 90)).drew = .ok (.slice o' n' c') V := hr
  rw [hZ] at hst2
  rw [hnc, hsc]
  clear hcY hY hnc hsc hzX kY rY hZ hZs rZ oZ hXs bZ hMo bZ' hMo' hr ho hg hat hD2 hF2 C3
  unfold cnA at *
  go_wp2_with fail
  go_region
  go_wp2_with fail
  go_ret
  exact ⟨rfl, _, _, HFIN.out.1, HFIN.out.2⟩
set_option maxRecDepth 100000 in
set_option maxHeartbeats 3200000 in
theorem do_app1 [Inhabited HoleT] {lo v : Nat} {W : World} {lv : Value} {f : Array Value} {ms : List (Array Value)} {sp : List Sp} (h : Dv lo W v lv f ms sp) (hlo : lo ≤ W.heap.size) (x : Sp) (hx : sp[ms.length]? = some x) (hbig : ms.length < 1000000) (pb : Nat) (z : List Nat × Nat)
    (hcl : ∀ (Q : Nat → Prop) (c : Array Value) (Y : World), Below W.heap.size W Y → (∀ j, Q j → j < Y.heap.size) → Cn Q Y c x.2.1 x.2.2 → Calls Tryd.prog 59 #[.agg c, .pointer (some ⟨pb, 0, none⟩)] Y (ClP Q Y z)) : Calls Tryd.prog 58 #[.pointer (some ⟨v, 0, none⟩), .int .i64 1, .func (.func 59) #[] #[.pointer (some ⟨pb, 0, none⟩)]] W (DoP lo W v lv f ms sp (x.1, z)) := by
  have C1 : Hid _ := count_any h
  have C2 : Hid _ := at_any h ms.length x hx (by omega)
  have HD : Hid (Dv lo W v lv f ms sp ∧ lo ≤ W.heap.size ∧ ms.length < 1000000) := ⟨h, hlo, hbig⟩
  have HCL : Hid _ := hcl
  obtain ⟨oV, cV, hlv, -⟩ := h.vsl
  subst hlv
  clear h hx hcl hbig hlo
  go_enter Tryd.func58, Tryd.ntmps58
  go_wp2_with fail
  refine Calls.mono C1.out ?_
  rintro e w' ⟨rfl, hw⟩
  have hw2 := hw.symm
  subst hw2
  go_wp2_with fail
  refine Calls.mono C2.out ?_
  rintro e X ⟨m, rfl, hm, hX⟩
  obtain ⟨p0, p1, rfl, hc0, hc1⟩ := id hm
  obtain ⟨n0, hn0⟩ : ∃ n, x.1.1.length = n := ⟨_, rfl⟩
  obtain ⟨n1, hn1⟩ : ∃ n, x.2.1.length = n := ⟨_, rfl⟩
  obtain ⟨s0, hs0⟩ : ∃ n, x.1.2 = n := ⟨_, rfl⟩
  obtain ⟨s1, hs1⟩ : ∃ n, x.2.2 = n := ⟨_, rfl⟩
  have HX : Hid (Below W.heap.size W X) := hX
  have HN : Hid (x.1.1.length = n0 ∧ x.2.1.length = n1 ∧ x.1.2 = s0 ∧ x.2.2 = s1) := ⟨hn0, hn1, hs0, hs1⟩
  have HC0 : Hid (Cn (Qd lo W v (.slice oV ms.length cV)) X (cnA p0 x.1.1.length x.1.2) x.1.1 x.1.2) := hc0
  have HC1 : Hid (Cn (Qd lo W v (.slice oV ms.length cV)) X (cnA p1 x.2.1.length x.2.2) x.2.1 x.2.2) := hc1
  have hQ : ∀ j, Qd lo W v (.slice oV ms.length cV) j → j < X.heap.size := fun j hj => Nat.lt_of_lt_of_le hj.2.1 hX.size
  have bA : ∀ o, Below W.heap.size W (X.alloc o) := fun o => hX.alloc hX.size o
  have C3 : Hid _ := HCL.out (Qd lo W v (.slice oV ms.length cV)) (cnA p1 x.2.1.length x.2.2) (X.alloc (.cells (momA p0 n0 s0 p1 n1 s1) 90)) (bA _) (fun j hj => by have := hQ j hj; simp; omega) (hc1.keep (fun j hj => heap_alloc_old _ _ (h := hQ j hj)) (fun _ h => h))
  have HQ : Hid _ := hQ
  rw [hn0, hn1, hs0, hs1]
  rw [hn1, hs1] at C3
  clear hm hc0 hc1 hn0 hn1 hs0 hs1 hX C1 C2 bA hQ
  unfold momA cnA at *
  go_wp2_with fail
  refine Calls.mono C3.out ?_
  rintro e Y ⟨c', rfl, hcY, hY⟩
  obtain ⟨pc, rfl, -⟩ := id hcY
  obtain ⟨nc, hnc⟩ : ∃ n, z.1.length = n := ⟨_, rfl⟩
  obtain ⟨sc, hsc⟩ : ∃ n, z.2 = n := ⟨_, rfl⟩
  have hzX : X.heap.size + 1 ≤ Y.heap.size := by have := hY.size; simpa using this
  have kY : ∀ j, j < X.heap.size + 1 → Y.heap[j]? = (X.alloc (.cells (momA p0 n0 s0 p1 n1 s1) 90)).heap[j]? := fun j hj => hY.block j (by simp; omega)
  have rY : (Y.alloc (.cells (cnA pc nc sc) 88)).heap[X.heap.size]? = some (.cells (momA p0 n0 s0 p1 n1 s1) 90 (0, 0)) := (heap_alloc_old _ _ (h := by omega)).trans ((kY _ (by omega)).trans (heap_alloc_new _ _))
  have hst1 := stc_new Y pc nc sc
  have hst2 := st_C1 (Y.alloc (.cells (cnA pc nc sc) 88)) X.heap.size (.pointer pc) (.int .i64 (nc : Int)) (.int .i64 (sc : Int)) _ _ _ _ _ _ (by simp [Value.oneCell']) rY
  obtain ⟨Z, hZ⟩ : ∃ Z, (Y.alloc (.cells (cnA pc nc sc) 88)).setRow X.heap.size #[.pointer p0, .int .i64 (n0 : Int), .int .i64 (s0 : Int), .pointer pc, .int .i64 (nc : Int), .int .i64 (sc : Int)] = Z := ⟨_, rfl⟩
  have hZs : Z.heap.size = Y.heap.size + 1 := by rw [← hZ]; simp
  have rZ : Z.heap[X.heap.size]? = some (.cells #[.pointer p0, .int .i64 (n0 : Int), .int .i64 (s0 : Int), .pointer pc, .int .i64 (nc : Int), .int .i64 (sc : Int)] 90 (0, 0)) := by rw [← hZ]; exact setRow_heap _ _ _ _ _ _ rY
  have oZ : ∀ j, j < Y.heap.size → j ≠ X.heap.size → Z.heap[j]? = Y.heap[j]? := fun j hj hn => by rw [← hZ]; exact (setRow_other _ _ _ _ hn).trans (heap_alloc_old _ _ (h := hj))
  have hXs := HX.out.size
  have bZ : Below W.heap.size W Z := by
    have bY : Below W.heap.size W (Y.alloc (.cells (cnA pc nc sc) 88)) := ((HX.out.alloc HX.out.size _).trans (hY.mono (by simp; omega))).alloc (by omega) _
    rw [← hZ]
    exact below_setRow bY (by omega) _
  have hMo : Mo (fun g => Qd lo W v (.slice oV ms.length cV) g ∨ W.heap.size ≤ g ∧ g < Z.heap.size) Z #[.pointer p0, .int .i64 (n0 : Int), .int .i64 (s0 : Int), .pointer pc, .int .i64 (nc : Int), .int .i64 (sc : Int)] (x.1, z) := by
    have e1 := hcY.keep (Q' := fun g => Qd lo W v (.slice oV ms.length cV) g ∨ W.heap.size ≤ g ∧ g < Z.heap.size) (W' := Z) (fun j hj => oZ j (by rcases hj with q | q; have := HQ.out j q; omega; exact q.2) (by rcases hj with q | q; have := HQ.out j q; omega; have := q.1; simp at this; omega)) (fun j hj => by rcases hj with q | q; exact .inl q; exact .inr ⟨by have := q.1; simp at this; omega, by omega⟩)
    have e2 := HC0.out.keep (Q' := fun g => Qd lo W v (.slice oV ms.length cV) g ∨ W.heap.size ≤ g ∧ g < Z.heap.size) (W' := Z) (fun j hj => (oZ j (by have := HQ.out j hj; omega) (by have := HQ.out j hj; omega)).trans ((kY j (by have := HQ.out j hj; omega)).trans (heap_alloc_old _ _ (h := HQ.out j hj)))) (fun j hj => .inl hj)
    refine ⟨p0, pc, ?_, e2, e1⟩
    show _ = momA _ x.1.1.length x.1.2 _ z.1.length z.2
    rw [hnc, hsc, HN.out.1, HN.out.2.2.1]
    rfl
  have bZ' : Below W.heap.size W Z.drew := ⟨bZ.os, bZ.tape, bZ.output, bZ.size, bZ.block⟩
  have hMo' := Mo.keep (W := Z) (W' := Z.drew) (Q' := fun g => Qd lo W v (.slice oV ms.length cV) g ∨ W.heap.size ≤ g ∧ g < Z.drew.heap.size) (fun _ _ => rfl) (fun _ h => h) hMo
  obtain ⟨v', V, hr, ho, hg, hat⟩ := run_apM1 Z.drew lo ms.length (.slice oV ms.length cV) ms #[.pointer p0, .int .i64 (n0 : Int), .int .i64 (s0 : Int), .pointer pc, .int .i64 (nc : Int), .int .i64 (sc : Int)] (HD.out.1.below bZ').own rfl (by simp [Value.oneCell']) (by have := HD.out.2.2; omega) (by have := HD.out.2.1; have := bZ'.size; omega)
  obtain ⟨g6, f6, hD2, hF2⟩ := HD.out.1.more bZ' hMo' ho hg hat HD.out.2.1
  have HFIN : Hid (Dv lo (V.setCell ⟨v, 6, none⟩ v') v v' f (ms ++ [#[.pointer p0, .int .i64 (n0 : Int), .int .i64 (s0 : Int), .pointer pc, .int .i64 (nc : Int), .int .i64 (sc : Int)]]) (sp ++ [(x.1, z)]) ∧ Fr W (V.setCell ⟨v, 6, none⟩ v') v (.slice oV ms.length cV)) := ⟨hD2, hF2⟩
  obtain ⟨o', n', c', hv'⟩ := own_sl ho
  subst hv'
  have c6 : Z.drew.cell? ⟨v, 6, none⟩ = some (.slice oV ms.length cV) := (HD.out.1.below bZ').cell6
  have c6' : (Z.alloc (.cells #[.pointer p0, .int .i64 (n0 : Int), .int .i64 (s0 : Int), .pointer pc, .int .i64 (nc : Int), .int .i64 (sc : Int)] 90)).drew.cell? ⟨v, 6, none⟩ = some (.slice oV ms.length cV) := below_cell ((Below.refl _ Z).alloc (Nat.le_refl _) _) (HD.out.1.below bZ).cell6
  have ldM2 := ld_Mrow Z.drew X.heap.size #[.pointer p0, .int .i64 (n0 : Int), .int .i64 (s0 : Int), .pointer pc, .int .i64 (nc : Int), .int .i64 (sc : Int)] rfl rZ
  have hr2 : (apM 91 #[.slice oV ms.length cV, .slice (some ⟨Z.heap.size, 0, none⟩) 1 1]).run Tryd.prog (Z.alloc (.cells #[.pointer p0, .int .i64 (n0 : Int), .int .i64 (s0 : Int), .pointer pc, .int .i64 (nc : Int), .int .i64 (sc : Int)] 90)).drew = .ok (.slice o' n' c') V := hr
  rw [hZ] at hst2
  rw [hnc, hsc]
  clear hcY hY hnc hsc hzX kY rY hZ hZs rZ oZ hXs bZ hMo bZ' hMo' hr ho hg hat hD2 hF2 C3
  unfold cnA at *
  go_wp2_with fail
  go_region
  go_wp2_with fail
  go_ret
  exact ⟨rfl, _, _, HFIN.out.1, HFIN.out.2⟩
set_option maxRecDepth 100000 in
set_option maxHeartbeats 3200000 in
theorem do_cut0 [Inhabited HoleT] {lo v : Nat} {W : World} {lv : Value} {f : Array Value} {ms : List (Array Value)} {sp : List Sp} (h : Dv lo W v lv f ms sp) (hlo : lo ≤ W.heap.size) (x : Sp) (hx : sp[ms.length]? = some x) (hbig : ms.length < 1000000) (pb : Nat) (z : List Nat × Nat)
    (hcl : ∀ (Q : Nat → Prop) (c : Array Value) (Y : World), Below W.heap.size W Y → (∀ j, Q j → j < Y.heap.size) → Cn Q Y c x.1.1 x.1.2 → Calls Tryd.prog 61 #[.agg c, .pointer (some ⟨pb, 0, none⟩)] Y (ClP Q Y z)) : Calls Tryd.prog 58 #[.pointer (some ⟨v, 0, none⟩), .int .i64 0, .func (.func 61) #[] #[.pointer (some ⟨pb, 0, none⟩)]] W (DoP lo W v lv f ms sp (z, x.2)) := by
  have C1 : Hid _ := count_any h
  have C2 : Hid _ := at_any h ms.length x hx (by omega)
  have HD : Hid (Dv lo W v lv f ms sp ∧ lo ≤ W.heap.size ∧ ms.length < 1000000) := ⟨h, hlo, hbig⟩
  have HCL : Hid _ := hcl
  obtain ⟨oV, cV, hlv, -⟩ := h.vsl
  subst hlv
  clear h hx hcl hbig hlo
  go_enter Tryd.func58, Tryd.ntmps58
  go_wp2_with fail
  refine Calls.mono C1.out ?_
  rintro e w' ⟨rfl, hw⟩
  have hw2 := hw.symm
  subst hw2
  go_wp2_with fail
  refine Calls.mono C2.out ?_
  rintro e X ⟨m, rfl, hm, hX⟩
  obtain ⟨p0, p1, rfl, hc0, hc1⟩ := id hm
  obtain ⟨n0, hn0⟩ : ∃ n, x.1.1.length = n := ⟨_, rfl⟩
  obtain ⟨n1, hn1⟩ : ∃ n, x.2.1.length = n := ⟨_, rfl⟩
  obtain ⟨s0, hs0⟩ : ∃ n, x.1.2 = n := ⟨_, rfl⟩
  obtain ⟨s1, hs1⟩ : ∃ n, x.2.2 = n := ⟨_, rfl⟩
  have HX : Hid (Below W.heap.size W X) := hX
  have HN : Hid (x.1.1.length = n0 ∧ x.2.1.length = n1 ∧ x.1.2 = s0 ∧ x.2.2 = s1) := ⟨hn0, hn1, hs0, hs1⟩
  have HC0 : Hid (Cn (Qd lo W v (.slice oV ms.length cV)) X (cnA p0 x.1.1.length x.1.2) x.1.1 x.1.2) := hc0
  have HC1 : Hid (Cn (Qd lo W v (.slice oV ms.length cV)) X (cnA p1 x.2.1.length x.2.2) x.2.1 x.2.2) := hc1
  have hQ : ∀ j, Qd lo W v (.slice oV ms.length cV) j → j < X.heap.size := fun j hj => Nat.lt_of_lt_of_le hj.2.1 hX.size
  have bA : ∀ o, Below W.heap.size W (X.alloc o) := fun o => hX.alloc hX.size o
  have C3 : Hid _ := HCL.out (Qd lo W v (.slice oV ms.length cV)) (cnA p0 x.1.1.length x.1.2) (X.alloc (.cells (momA p0 n0 s0 p1 n1 s1) 90)) (bA _) (fun j hj => by have := hQ j hj; simp; omega) (hc0.keep (fun j hj => heap_alloc_old _ _ (h := hQ j hj)) (fun _ h => h))
  have HQ : Hid _ := hQ
  rw [hn0, hn1, hs0, hs1]
  rw [hn0, hs0] at C3
  clear hm hc0 hc1 hn0 hn1 hs0 hs1 hX C1 C2 bA hQ
  unfold momA cnA at *
  go_wp2_with fail
  refine Calls.mono C3.out ?_
  rintro e Y ⟨c', rfl, hcY, hY⟩
  obtain ⟨pc, rfl, -⟩ := id hcY
  obtain ⟨nc, hnc⟩ : ∃ n, z.1.length = n := ⟨_, rfl⟩
  obtain ⟨sc, hsc⟩ : ∃ n, z.2 = n := ⟨_, rfl⟩
  have hzX : X.heap.size + 1 ≤ Y.heap.size := by have := hY.size; simpa using this
  have kY : ∀ j, j < X.heap.size + 1 → Y.heap[j]? = (X.alloc (.cells (momA p0 n0 s0 p1 n1 s1) 90)).heap[j]? := fun j hj => hY.block j (by simp; omega)
  have rY : (Y.alloc (.cells (cnA pc nc sc) 88)).heap[X.heap.size]? = some (.cells (momA p0 n0 s0 p1 n1 s1) 90 (0, 0)) := (heap_alloc_old _ _ (h := by omega)).trans ((kY _ (by omega)).trans (heap_alloc_new _ _))
  have hst1 := stc_new Y pc nc sc
  have hst2 := st_C0 (Y.alloc (.cells (cnA pc nc sc) 88)) X.heap.size (.pointer pc) (.int .i64 (nc : Int)) (.int .i64 (sc : Int)) _ _ _ _ _ _ (by simp [Value.oneCell']) rY
  obtain ⟨Z, hZ⟩ : ∃ Z, (Y.alloc (.cells (cnA pc nc sc) 88)).setRow X.heap.size #[.pointer pc, .int .i64 (nc : Int), .int .i64 (sc : Int), .pointer p1, .int .i64 (n1 : Int), .int .i64 (s1 : Int)] = Z := ⟨_, rfl⟩
  have hZs : Z.heap.size = Y.heap.size + 1 := by rw [← hZ]; simp
  have rZ : Z.heap[X.heap.size]? = some (.cells #[.pointer pc, .int .i64 (nc : Int), .int .i64 (sc : Int), .pointer p1, .int .i64 (n1 : Int), .int .i64 (s1 : Int)] 90 (0, 0)) := by rw [← hZ]; exact setRow_heap _ _ _ _ _ _ rY
  have oZ : ∀ j, j < Y.heap.size → j ≠ X.heap.size → Z.heap[j]? = Y.heap[j]? := fun j hj hn => by rw [← hZ]; exact (setRow_other _ _ _ _ hn).trans (heap_alloc_old _ _ (h := hj))
  have hXs := HX.out.size
  have bZ : Below W.heap.size W Z := by
    have bY : Below W.heap.size W (Y.alloc (.cells (cnA pc nc sc) 88)) := ((HX.out.alloc HX.out.size _).trans (hY.mono (by simp; omega))).alloc (by omega) _
    rw [← hZ]
    exact below_setRow bY (by omega) _
  have hMo : Mo (fun g => Qd lo W v (.slice oV ms.length cV) g ∨ W.heap.size ≤ g ∧ g < Z.heap.size) Z #[.pointer pc, .int .i64 (nc : Int), .int .i64 (sc : Int), .pointer p1, .int .i64 (n1 : Int), .int .i64 (s1 : Int)] (z, x.2) := by
    have e1 := hcY.keep (Q' := fun g => Qd lo W v (.slice oV ms.length cV) g ∨ W.heap.size ≤ g ∧ g < Z.heap.size) (W' := Z) (fun j hj => oZ j (by rcases hj with q | q; have := HQ.out j q; omega; exact q.2) (by rcases hj with q | q; have := HQ.out j q; omega; have := q.1; simp at this; omega)) (fun j hj => by rcases hj with q | q; exact .inl q; exact .inr ⟨by have := q.1; simp at this; omega, by omega⟩)
    have e2 := HC1.out.keep (Q' := fun g => Qd lo W v (.slice oV ms.length cV) g ∨ W.heap.size ≤ g ∧ g < Z.heap.size) (W' := Z) (fun j hj => (oZ j (by have := HQ.out j hj; omega) (by have := HQ.out j hj; omega)).trans ((kY j (by have := HQ.out j hj; omega)).trans (heap_alloc_old _ _ (h := HQ.out j hj)))) (fun j hj => .inl hj)
    refine ⟨pc, p1, ?_, e1, e2⟩
    show _ = momA _ z.1.length z.2 _ x.2.1.length x.2.2
    rw [hnc, hsc, HN.out.2.1, HN.out.2.2.2]
    rfl
  have bZ' : Below W.heap.size W Z.drew := ⟨bZ.os, bZ.tape, bZ.output, bZ.size, bZ.block⟩
  have hMo' := Mo.keep (W := Z) (W' := Z.drew) (Q' := fun g => Qd lo W v (.slice oV ms.length cV) g ∨ W.heap.size ≤ g ∧ g < Z.drew.heap.size) (fun _ _ => rfl) (fun _ h => h) hMo
  obtain ⟨v', V, hr, ho, hg, hat⟩ := run_apM1 Z.drew lo ms.length (.slice oV ms.length cV) ms #[.pointer pc, .int .i64 (nc : Int), .int .i64 (sc : Int), .pointer p1, .int .i64 (n1 : Int), .int .i64 (s1 : Int)] (HD.out.1.below bZ').own rfl (by simp [Value.oneCell']) (by have := HD.out.2.2; omega) (by have := HD.out.2.1; have := bZ'.size; omega)
  obtain ⟨g6, f6, hD2, hF2⟩ := HD.out.1.more bZ' hMo' ho hg hat HD.out.2.1
  have HFIN : Hid (Dv lo (V.setCell ⟨v, 6, none⟩ v') v v' f (ms ++ [#[.pointer pc, .int .i64 (nc : Int), .int .i64 (sc : Int), .pointer p1, .int .i64 (n1 : Int), .int .i64 (s1 : Int)]]) (sp ++ [(z, x.2)]) ∧ Fr W (V.setCell ⟨v, 6, none⟩ v') v (.slice oV ms.length cV)) := ⟨hD2, hF2⟩
  obtain ⟨o', n', c', hv'⟩ := own_sl ho
  subst hv'
  have c6 : Z.drew.cell? ⟨v, 6, none⟩ = some (.slice oV ms.length cV) := (HD.out.1.below bZ').cell6
  have c6' : (Z.alloc (.cells #[.pointer pc, .int .i64 (nc : Int), .int .i64 (sc : Int), .pointer p1, .int .i64 (n1 : Int), .int .i64 (s1 : Int)] 90)).drew.cell? ⟨v, 6, none⟩ = some (.slice oV ms.length cV) := below_cell ((Below.refl _ Z).alloc (Nat.le_refl _) _) (HD.out.1.below bZ).cell6
  have ldM2 := ld_Mrow Z.drew X.heap.size #[.pointer pc, .int .i64 (nc : Int), .int .i64 (sc : Int), .pointer p1, .int .i64 (n1 : Int), .int .i64 (s1 : Int)] rfl rZ
  have hr2 : (apM 91 #[.slice oV ms.length cV, .slice (some ⟨Z.heap.size, 0, none⟩) 1 1]).run Tryd.prog (Z.alloc (.cells #[.pointer pc, .int .i64 (nc : Int), .int .i64 (sc : Int), .pointer p1, .int .i64 (n1 : Int), .int .i64 (s1 : Int)] 90)).drew = .ok (.slice o' n' c') V := hr
  rw [hZ] at hst2
  rw [hnc, hsc]
  clear hcY hY hnc hsc hzX kY rY hZ hZs rZ oZ hXs bZ hMo bZ' hMo' hr ho hg hat hD2 hF2 C3
  unfold cnA at *
  go_wp2_with fail
  go_region
  go_wp2_with fail
  go_ret
  exact ⟨rfl, _, _, HFIN.out.1, HFIN.out.2⟩
set_option maxRecDepth 100000 in
set_option maxHeartbeats 3200000 in
theorem do_cut1 [Inhabited HoleT] {lo v : Nat} {W : World} {lv : Value} {f : Array Value} {ms : List (Array Value)} {sp : List Sp} (h : Dv lo W v lv f ms sp) (hlo : lo ≤ W.heap.size) (x : Sp) (hx : sp[ms.length]? = some x) (hbig : ms.length < 1000000) (pb : Nat) (z : List Nat × Nat)
    (hcl : ∀ (Q : Nat → Prop) (c : Array Value) (Y : World), Below W.heap.size W Y → (∀ j, Q j → j < Y.heap.size) → Cn Q Y c x.2.1 x.2.2 → Calls Tryd.prog 61 #[.agg c, .pointer (some ⟨pb, 0, none⟩)] Y (ClP Q Y z)) : Calls Tryd.prog 58 #[.pointer (some ⟨v, 0, none⟩), .int .i64 1, .func (.func 61) #[] #[.pointer (some ⟨pb, 0, none⟩)]] W (DoP lo W v lv f ms sp (x.1, z)) := by
  have C1 : Hid _ := count_any h
  have C2 : Hid _ := at_any h ms.length x hx (by omega)
  have HD : Hid (Dv lo W v lv f ms sp ∧ lo ≤ W.heap.size ∧ ms.length < 1000000) := ⟨h, hlo, hbig⟩
  have HCL : Hid _ := hcl
  obtain ⟨oV, cV, hlv, -⟩ := h.vsl
  subst hlv
  clear h hx hcl hbig hlo
  go_enter Tryd.func58, Tryd.ntmps58
  go_wp2_with fail
  refine Calls.mono C1.out ?_
  rintro e w' ⟨rfl, hw⟩
  have hw2 := hw.symm
  subst hw2
  go_wp2_with fail
  refine Calls.mono C2.out ?_
  rintro e X ⟨m, rfl, hm, hX⟩
  obtain ⟨p0, p1, rfl, hc0, hc1⟩ := id hm
  obtain ⟨n0, hn0⟩ : ∃ n, x.1.1.length = n := ⟨_, rfl⟩
  obtain ⟨n1, hn1⟩ : ∃ n, x.2.1.length = n := ⟨_, rfl⟩
  obtain ⟨s0, hs0⟩ : ∃ n, x.1.2 = n := ⟨_, rfl⟩
  obtain ⟨s1, hs1⟩ : ∃ n, x.2.2 = n := ⟨_, rfl⟩
  have HX : Hid (Below W.heap.size W X) := hX
  have HN : Hid (x.1.1.length = n0 ∧ x.2.1.length = n1 ∧ x.1.2 = s0 ∧ x.2.2 = s1) := ⟨hn0, hn1, hs0, hs1⟩
  have HC0 : Hid (Cn (Qd lo W v (.slice oV ms.length cV)) X (cnA p0 x.1.1.length x.1.2) x.1.1 x.1.2) := hc0
  have HC1 : Hid (Cn (Qd lo W v (.slice oV ms.length cV)) X (cnA p1 x.2.1.length x.2.2) x.2.1 x.2.2) := hc1
  have hQ : ∀ j, Qd lo W v (.slice oV ms.length cV) j → j < X.heap.size := fun j hj => Nat.lt_of_lt_of_le hj.2.1 hX.size
  have bA : ∀ o, Below W.heap.size W (X.alloc o) := fun o => hX.alloc hX.size o
  have C3 : Hid _ := HCL.out (Qd lo W v (.slice oV ms.length cV)) (cnA p1 x.2.1.length x.2.2) (X.alloc (.cells (momA p0 n0 s0 p1 n1 s1) 90)) (bA _) (fun j hj => by have := hQ j hj; simp; omega) (hc1.keep (fun j hj => heap_alloc_old _ _ (h := hQ j hj)) (fun _ h => h))
  have HQ : Hid _ := hQ
  rw [hn0, hn1, hs0, hs1]
  rw [hn1, hs1] at C3
  clear hm hc0 hc1 hn0 hn1 hs0 hs1 hX C1 C2 bA hQ
  unfold momA cnA at *
  go_wp2_with fail
  refine Calls.mono C3.out ?_
  rintro e Y ⟨c', rfl, hcY, hY⟩
  obtain ⟨pc, rfl, -⟩ := id hcY
  obtain ⟨nc, hnc⟩ : ∃ n, z.1.length = n := ⟨_, rfl⟩
  obtain ⟨sc, hsc⟩ : ∃ n, z.2 = n := ⟨_, rfl⟩
  have hzX : X.heap.size + 1 ≤ Y.heap.size := by have := hY.size; simpa using this
  have kY : ∀ j, j < X.heap.size + 1 → Y.heap[j]? = (X.alloc (.cells (momA p0 n0 s0 p1 n1 s1) 90)).heap[j]? := fun j hj => hY.block j (by simp; omega)
  have rY : (Y.alloc (.cells (cnA pc nc sc) 88)).heap[X.heap.size]? = some (.cells (momA p0 n0 s0 p1 n1 s1) 90 (0, 0)) := (heap_alloc_old _ _ (h := by omega)).trans ((kY _ (by omega)).trans (heap_alloc_new _ _))
  have hst1 := stc_new Y pc nc sc
  have hst2 := st_C1 (Y.alloc (.cells (cnA pc nc sc) 88)) X.heap.size (.pointer pc) (.int .i64 (nc : Int)) (.int .i64 (sc : Int)) _ _ _ _ _ _ (by simp [Value.oneCell']) rY
  obtain ⟨Z, hZ⟩ : ∃ Z, (Y.alloc (.cells (cnA pc nc sc) 88)).setRow X.heap.size #[.pointer p0, .int .i64 (n0 : Int), .int .i64 (s0 : Int), .pointer pc, .int .i64 (nc : Int), .int .i64 (sc : Int)] = Z := ⟨_, rfl⟩
  have hZs : Z.heap.size = Y.heap.size + 1 := by rw [← hZ]; simp
  have rZ : Z.heap[X.heap.size]? = some (.cells #[.pointer p0, .int .i64 (n0 : Int), .int .i64 (s0 : Int), .pointer pc, .int .i64 (nc : Int), .int .i64 (sc : Int)] 90 (0, 0)) := by rw [← hZ]; exact setRow_heap _ _ _ _ _ _ rY
  have oZ : ∀ j, j < Y.heap.size → j ≠ X.heap.size → Z.heap[j]? = Y.heap[j]? := fun j hj hn => by rw [← hZ]; exact (setRow_other _ _ _ _ hn).trans (heap_alloc_old _ _ (h := hj))
  have hXs := HX.out.size
  have bZ : Below W.heap.size W Z := by
    have bY : Below W.heap.size W (Y.alloc (.cells (cnA pc nc sc) 88)) := ((HX.out.alloc HX.out.size _).trans (hY.mono (by simp; omega))).alloc (by omega) _
    rw [← hZ]
    exact below_setRow bY (by omega) _
  have hMo : Mo (fun g => Qd lo W v (.slice oV ms.length cV) g ∨ W.heap.size ≤ g ∧ g < Z.heap.size) Z #[.pointer p0, .int .i64 (n0 : Int), .int .i64 (s0 : Int), .pointer pc, .int .i64 (nc : Int), .int .i64 (sc : Int)] (x.1, z) := by
    have e1 := hcY.keep (Q' := fun g => Qd lo W v (.slice oV ms.length cV) g ∨ W.heap.size ≤ g ∧ g < Z.heap.size) (W' := Z) (fun j hj => oZ j (by rcases hj with q | q; have := HQ.out j q; omega; exact q.2) (by rcases hj with q | q; have := HQ.out j q; omega; have := q.1; simp at this; omega)) (fun j hj => by rcases hj with q | q; exact .inl q; exact .inr ⟨by have := q.1; simp at this; omega, by omega⟩)
    have e2 := HC0.out.keep (Q' := fun g => Qd lo W v (.slice oV ms.length cV) g ∨ W.heap.size ≤ g ∧ g < Z.heap.size) (W' := Z) (fun j hj => (oZ j (by have := HQ.out j hj; omega) (by have := HQ.out j hj; omega)).trans ((kY j (by have := HQ.out j hj; omega)).trans (heap_alloc_old _ _ (h := HQ.out j hj)))) (fun j hj => .inl hj)
    refine ⟨p0, pc, ?_, e2, e1⟩
    show _ = momA _ x.1.1.length x.1.2 _ z.1.length z.2
    rw [hnc, hsc, HN.out.1, HN.out.2.2.1]
    rfl
  have bZ' : Below W.heap.size W Z.drew := ⟨bZ.os, bZ.tape, bZ.output, bZ.size, bZ.block⟩
  have hMo' := Mo.keep (W := Z) (W' := Z.drew) (Q' := fun g => Qd lo W v (.slice oV ms.length cV) g ∨ W.heap.size ≤ g ∧ g < Z.drew.heap.size) (fun _ _ => rfl) (fun _ h => h) hMo
  obtain ⟨v', V, hr, ho, hg, hat⟩ := run_apM1 Z.drew lo ms.length (.slice oV ms.length cV) ms #[.pointer p0, .int .i64 (n0 : Int), .int .i64 (s0 : Int), .pointer pc, .int .i64 (nc : Int), .int .i64 (sc : Int)] (HD.out.1.below bZ').own rfl (by simp [Value.oneCell']) (by have := HD.out.2.2; omega) (by have := HD.out.2.1; have := bZ'.size; omega)
  obtain ⟨g6, f6, hD2, hF2⟩ := HD.out.1.more bZ' hMo' ho hg hat HD.out.2.1
  have HFIN : Hid (Dv lo (V.setCell ⟨v, 6, none⟩ v') v v' f (ms ++ [#[.pointer p0, .int .i64 (n0 : Int), .int .i64 (s0 : Int), .pointer pc, .int .i64 (nc : Int), .int .i64 (sc : Int)]]) (sp ++ [(x.1, z)]) ∧ Fr W (V.setCell ⟨v, 6, none⟩ v') v (.slice oV ms.length cV)) := ⟨hD2, hF2⟩
  obtain ⟨o', n', c', hv'⟩ := own_sl ho
  subst hv'
  have c6 : Z.drew.cell? ⟨v, 6, none⟩ = some (.slice oV ms.length cV) := (HD.out.1.below bZ').cell6
  have c6' : (Z.alloc (.cells #[.pointer p0, .int .i64 (n0 : Int), .int .i64 (s0 : Int), .pointer pc, .int .i64 (nc : Int), .int .i64 (sc : Int)] 90)).drew.cell? ⟨v, 6, none⟩ = some (.slice oV ms.length cV) := below_cell ((Below.refl _ Z).alloc (Nat.le_refl _) _) (HD.out.1.below bZ).cell6
  have ldM2 := ld_Mrow Z.drew X.heap.size #[.pointer p0, .int .i64 (n0 : Int), .int .i64 (s0 : Int), .pointer pc, .int .i64 (nc : Int), .int .i64 (sc : Int)] rfl rZ
  have hr2 : (apM 91 #[.slice oV ms.length cV, .slice (some ⟨Z.heap.size, 0, none⟩) 1 1]).run Tryd.prog (Z.alloc (.cells #[.pointer p0, .int .i64 (n0 : Int), .int .i64 (s0 : Int), .pointer pc, .int .i64 (nc : Int), .int .i64 (sc : Int)] 90)).drew = .ok (.slice o' n' c') V := hr
  rw [hZ] at hst2
  rw [hnc, hsc]
  clear hcY hY hnc hsc hzX kY rY hZ hZs rZ oZ hXs bZ hMo bZ' hMo' hr ho hg hat hD2 hF2 C3
  unfold cnA at *
  go_wp2_with fail
  go_region
  go_wp2_with fail
  go_ret
  exact ⟨rfl, _, _, HFIN.out.1, HFIN.out.2⟩
end
end Go.Proofs.YtfimaflglnemdaaDoor.Dev

/- The journal's device: Append, Sync, Cut. -/
namespace Go.Proofs.YtfimaflglnemdaaDoor.Dev
open Go.RowKit
set_option maxRecDepth 20000
theorem Fr.sub {W W1 w' : World} {v : Nat} {lv : Value} (h : Fr W1 w' v lv) (hb : Below W.heap.size W W1) : Fr W w' v lv :=
  ⟨h.os.trans hb.os, h.tape.trans hb.tape, h.output.trans hb.output, Nat.le_trans hb.size h.size, fun j hj h1 h2 => (h.block j (Nat.lt_of_lt_of_le hj hb.size) h1 h2).trans (hb.block j hj)⟩
theorem DoP.sub [Inhabited HoleT] {lo v : Nat} {W W1 : World} {lv : Value} {f : Array Value} {ms : List (Array Value)} {sp : List Sp} {x' : Sp} {e : Ending} {w' : World} (h : DoP lo W1 v lv f ms sp x' e w') (hb : Below W.heap.size W W1) : DoP lo W v lv f ms sp x' e w' := by
  obtain ⟨h1, lv', m', h2, h3⟩ := h
  exact ⟨h1, lv', m', h2, h3.sub hb⟩
set_option maxRecDepth 100000 in
theorem Append0 [Inhabited HoleT] {lo v : Nat} {W : World} {lv : Value} {f : Array Value} {ms : List (Array Value)} {sp : List Sp} (h : Dv lo W v lv f ms sp) (hlo : lo ≤ W.heap.size) (x : Sp) (hx : sp[ms.length]? = some x) (hbig : ms.length < 1000000) (u : Value) (l : List Nat) (hl : Bl W u l) (hroom : x.1.1.length + l.length ≤ 67108864) : Calls Tryd.prog 29 #[.pointer (some ⟨v, 0, none⟩), .int .i64 0, u] W (DoP lo W v lv f ms sp ((x.1.1 ++ l, x.1.2), x.2)) := by
  obtain ⟨W1, hW1⟩ : ∃ W1, W.alloc (.cells #[u] 23) = W1 := ⟨_, rfl⟩
  have bW : Below W.heap.size W W1 := by rw [← hW1]; exact (Below.refl _ W).alloc (Nat.le_refl _) _
  have r1 : W1.heap[W.heap.size]? = some (.cells #[u] 23 (0, 0)) := by rw [← hW1]; exact heap_alloc_new _ _
  have C : Hid _ := do_app0 (h.below bW) (Nat.le_trans hlo bW.size) x hx hbig W.heap.size (x.1.1 ++ l, x.1.2) (fun Q c Y hY hQ hc => app_cl Q c x.1.1 x.1.2 Y hc hQ W.heap.size u l ((hl.below bW).below hY) ((hY.block _ (Array.getElem?_eq_some_iff.1 r1).1).trans r1) hroom)
  have HW : Hid (W.alloc (.cells #[u] 23) = W1 ∧ Below W.heap.size W W1) := ⟨hW1, bW⟩
  obtain ⟨oa, cap, hu, -⟩ := id hl
  subst hu
  clear hW1 bW r1 h hx hl hroom hlo hbig
  go_enter Tryd.func29, Tryd.ntmps29
  go_wp2_with fail
  rw [HW.out.1]
  refine Calls.mono C.out ?_
  rintro e w' hP
  have hP2 := hP.sub HW.out.2
  obtain ⟨rfl, hE⟩ := hP2
  have HE : Hid _ := hE
  clear hE hP C
  go_wp2_with fail
  go_ret
  exact ⟨rfl, HE.out⟩
set_option maxRecDepth 100000 in
theorem Sync0 [Inhabited HoleT] {lo v : Nat} {W : World} {lv : Value} {f : Array Value} {ms : List (Array Value)} {sp : List Sp} (h : Dv lo W v lv f ms sp) (hlo : lo ≤ W.heap.size) (x : Sp) (hx : sp[ms.length]? = some x) (hbig : ms.length < 1000000) : Calls Tryd.prog 30 #[.pointer (some ⟨v, 0, none⟩), .int .i64 0] W (DoP lo W v lv f ms sp ((x.1.1, x.1.1.length), x.2)) := by
  have C : Hid _ := do_sync0 h hlo x hx hbig 0 (x.1.1, x.1.1.length) (fun Q c Y hY hQ hc => sync_cl Q c x.1.1 x.1.2 Y hc hQ)
  clear h hx hlo hbig
  go_enter Tryd.func30, Tryd.ntmps30
  go_wp2_with fail
  refine Calls.mono C.out ?_
  rintro e w' ⟨rfl, hE⟩
  have HE : Hid _ := hE
  clear hE C
  go_wp2_with fail
  go_ret
  exact ⟨rfl, HE.out⟩
set_option maxRecDepth 100000 in
theorem Cut0 [Inhabited HoleT] {lo v : Nat} {W : World} {lv : Value} {f : Array Value} {ms : List (Array Value)} {sp : List Sp} (h : Dv lo W v lv f ms sp) (hlo : lo ≤ W.heap.size) (x : Sp) (hx : sp[ms.length]? = some x) (hbig : ms.length < 1000000) (n : Nat) (hn : n ≤ x.1.1.length) : Calls Tryd.prog 31 #[.pointer (some ⟨v, 0, none⟩), .int .i64 0, .int .i64 (n : Int)] W (DoP lo W v lv f ms sp ((x.1.1.take n, min x.1.2 n), x.2)) := by
  obtain ⟨W1, hW1⟩ : ∃ W1, W.alloc (.cells #[.int .i64 (n : Int)] 3) = W1 := ⟨_, rfl⟩
  have bW : Below W.heap.size W W1 := by rw [← hW1]; exact (Below.refl _ W).alloc (Nat.le_refl _) _
  have r1 : W1.heap[W.heap.size]? = some (.cells #[.int .i64 (n : Int)] 3 (0, 0)) := by rw [← hW1]; exact heap_alloc_new _ _
  have C : Hid _ := do_cut0 (h.below bW) (Nat.le_trans hlo bW.size) x hx hbig W.heap.size (x.1.1.take n, min x.1.2 n) (fun Q c Y hY hQ hc => cut_cl Q c x.1.1 x.1.2 Y hc hQ W.heap.size n ((hY.block _ (Array.getElem?_eq_some_iff.1 r1).1).trans r1) hn)
  have HW : Hid (W.alloc (.cells #[.int .i64 (n : Int)] 3) = W1 ∧ Below W.heap.size W W1) := ⟨hW1, bW⟩
  clear hW1 bW r1 h hx hlo hbig hn
  go_enter Tryd.func31, Tryd.ntmps31
  go_wp2_with fail
  rw [HW.out.1]
  refine Calls.mono C.out ?_
  rintro e w' hP
  have hP2 := hP.sub HW.out.2
  obtain ⟨rfl, hE⟩ := hP2
  have HE : Hid _ := hE
  clear hE hP C
  go_wp2_with fail
  go_ret
  exact ⟨rfl, HE.out⟩
set_option maxRecDepth 100000 in
theorem Append1 [Inhabited HoleT] {lo v : Nat} {W : World} {lv : Value} {f : Array Value} {ms : List (Array Value)} {sp : List Sp} (h : Dv lo W v lv f ms sp) (hlo : lo ≤ W.heap.size) (x : Sp) (hx : sp[ms.length]? = some x) (hbig : ms.length < 1000000) (u : Value) (l : List Nat) (hl : Bl W u l) (hroom : x.2.1.length + l.length ≤ 67108864) : Calls Tryd.prog 29 #[.pointer (some ⟨v, 0, none⟩), .int .i64 1, u] W (DoP lo W v lv f ms sp (x.1, (x.2.1 ++ l, x.2.2))) := by
  obtain ⟨W1, hW1⟩ : ∃ W1, W.alloc (.cells #[u] 23) = W1 := ⟨_, rfl⟩
  have bW : Below W.heap.size W W1 := by rw [← hW1]; exact (Below.refl _ W).alloc (Nat.le_refl _) _
  have r1 : W1.heap[W.heap.size]? = some (.cells #[u] 23 (0, 0)) := by rw [← hW1]; exact heap_alloc_new _ _
  have C : Hid _ := do_app1 (h.below bW) (Nat.le_trans hlo bW.size) x hx hbig W.heap.size (x.2.1 ++ l, x.2.2) (fun Q c Y hY hQ hc => app_cl Q c x.2.1 x.2.2 Y hc hQ W.heap.size u l ((hl.below bW).below hY) ((hY.block _ (Array.getElem?_eq_some_iff.1 r1).1).trans r1) hroom)
  have HW : Hid (W.alloc (.cells #[u] 23) = W1 ∧ Below W.heap.size W W1) := ⟨hW1, bW⟩
  obtain ⟨oa, cap, hu, -⟩ := id hl
  subst hu
  clear hW1 bW r1 h hx hl hroom hlo hbig
  go_enter Tryd.func29, Tryd.ntmps29
  go_wp2_with fail
  rw [HW.out.1]
  refine Calls.mono C.out ?_
  rintro e w' hP
  have hP2 := hP.sub HW.out.2
  obtain ⟨rfl, hE⟩ := hP2
  have HE : Hid _ := hE
  clear hE hP C
  go_wp2_with fail
  go_ret
  exact ⟨rfl, HE.out⟩
set_option maxRecDepth 100000 in
theorem Sync1 [Inhabited HoleT] {lo v : Nat} {W : World} {lv : Value} {f : Array Value} {ms : List (Array Value)} {sp : List Sp} (h : Dv lo W v lv f ms sp) (hlo : lo ≤ W.heap.size) (x : Sp) (hx : sp[ms.length]? = some x) (hbig : ms.length < 1000000) : Calls Tryd.prog 30 #[.pointer (some ⟨v, 0, none⟩), .int .i64 1] W (DoP lo W v lv f ms sp (x.1, (x.2.1, x.2.1.length))) := by
  have C : Hid _ := do_sync1 h hlo x hx hbig 0 (x.2.1, x.2.1.length) (fun Q c Y hY hQ hc => sync_cl Q c x.2.1 x.2.2 Y hc hQ)
  clear h hx hlo hbig
  go_enter Tryd.func30, Tryd.ntmps30
  go_wp2_with fail
  refine Calls.mono C.out ?_
  rintro e w' ⟨rfl, hE⟩
  have HE : Hid _ := hE
  clear hE C
  go_wp2_with fail
  go_ret
  exact ⟨rfl, HE.out⟩
set_option maxRecDepth 100000 in
theorem Cut1 [Inhabited HoleT] {lo v : Nat} {W : World} {lv : Value} {f : Array Value} {ms : List (Array Value)} {sp : List Sp} (h : Dv lo W v lv f ms sp) (hlo : lo ≤ W.heap.size) (x : Sp) (hx : sp[ms.length]? = some x) (hbig : ms.length < 1000000) (n : Nat) (hn : n ≤ x.2.1.length) : Calls Tryd.prog 31 #[.pointer (some ⟨v, 0, none⟩), .int .i64 1, .int .i64 (n : Int)] W (DoP lo W v lv f ms sp (x.1, (x.2.1.take n, min x.2.2 n))) := by
  obtain ⟨W1, hW1⟩ : ∃ W1, W.alloc (.cells #[.int .i64 (n : Int)] 3) = W1 := ⟨_, rfl⟩
  have bW : Below W.heap.size W W1 := by rw [← hW1]; exact (Below.refl _ W).alloc (Nat.le_refl _) _
  have r1 : W1.heap[W.heap.size]? = some (.cells #[.int .i64 (n : Int)] 3 (0, 0)) := by rw [← hW1]; exact heap_alloc_new _ _
  have C : Hid _ := do_cut1 (h.below bW) (Nat.le_trans hlo bW.size) x hx hbig W.heap.size (x.2.1.take n, min x.2.2 n) (fun Q c Y hY hQ hc => cut_cl Q c x.2.1 x.2.2 Y hc hQ W.heap.size n ((hY.block _ (Array.getElem?_eq_some_iff.1 r1).1).trans r1) hn)
  have HW : Hid (W.alloc (.cells #[.int .i64 (n : Int)] 3) = W1 ∧ Below W.heap.size W W1) := ⟨hW1, bW⟩
  clear hW1 bW r1 h hx hlo hbig hn
  go_enter Tryd.func31, Tryd.ntmps31
  go_wp2_with fail
  rw [HW.out.1]
  refine Calls.mono C.out ?_
  rintro e w' hP
  have hP2 := hP.sub HW.out.2
  obtain ⟨rfl, hE⟩ := hP2
  have HE : Hid _ := hE
  clear hE hP C
  go_wp2_with fail
  go_ret
  exact ⟨rfl, HE.out⟩
end Go.Proofs.YtfimaflglnemdaaDoor.Dev
