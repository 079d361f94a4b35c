/- Graphs searched by the document: Close. -/
import Derived.Test.YtgedmfcfhdfoeaaJgH
namespace Go.Proofs.Ytgedmfcfhdfoeaa
open Go.RowKit GM Gux
set_option maxRecDepth 20000
/-- Truth values as they lie. -/
def bk (N : Nat) (f : Nat → Bool) : Array Value := ((List.range N).map fun j => Value.bool (f j)).toArray
theorem bk_get (N : Nat) (f : Nat → Bool) (j : Nat) (h : j < N) : (bk N f)[j]? = some (.bool (f j)) := by simp [bk, h]
theorem bk_size (N : Nat) (f : Nat → Bool) : (bk N f).size = N := by simp [bk]
theorem bk_congr {N : Nat} {f g : Nat → Bool} (h : ∀ j, j < N → f j = g j) : bk N f = bk N g := by
  unfold bk
  congr 1
  apply List.map_congr_left
  intro j hj
  rw [h j (List.mem_range.1 hj)]
theorem bk_set (N : Nat) (f : Nat → Bool) (j : Nat) (x : Bool) : (bk N f).setIfInBounds j (.bool x) = bk N (fun y => if y = j then x else f y) := by
  apply Array.ext_getElem?
  intro k
  rw [Array.getElem?_setIfInBounds]
  by_cases hk : k < N
  · rw [bk_get N (fun y => if y = j then x else f y) k hk, bk_get N f k hk]
    by_cases e : j = k
    · subst e
      rw [if_pos rfl, if_pos (by rw [bk_size]; exact hk), if_pos rfl]
    · rw [if_neg e, if_neg (fun q => e q.symm)]
  · have n1 : (bk N f)[k]? = none := Array.getElem?_eq_none (by rw [bk_size]; omega)
    have n2 : (bk N (fun y => if y = j then x else f y))[k]? = none := Array.getElem?_eq_none (by rw [bk_size]; omega)
    rw [n1, n2]
    by_cases e : j = k
    · rw [if_pos e, if_neg (by rw [bk_size]; omega)]
    · rw [if_neg e]
def oc (gM N k : Nat) : Array Value := ((List.range N).map fun i => if i < k then Value.slice (some ⟨gM + 1 + i, 0, none⟩) N N else .slice none 0 0).toArray
theorem oc_get (gM N k i : Nat) (h : i < N) : (oc gM N k)[i]? = some (if i < k then Value.slice (some ⟨gM + 1 + i, 0, none⟩) N N else .slice none 0 0) := by simp [oc, h]
theorem oc_size (gM N k : Nat) : (oc gM N k).size = N := by simp [oc]
theorem oc_set (gM N k : Nat) (hk : k < N) : (oc gM N k).setIfInBounds k (.slice (some ⟨gM + 1 + k, 0, none⟩) N N) = oc gM N (k + 1) := by
  apply Array.ext_getElem?
  intro j
  rw [Array.getElem?_setIfInBounds]
  by_cases hj : j < N
  · rw [oc_get gM N (k + 1) j hj, oc_get gM N k j hj]
    by_cases e : k = j
    · subst e
      rw [if_pos rfl, if_pos (by rw [oc_size]; exact hj), if_pos (by omega)]
    · rw [if_neg e]
      by_cases q : j < k
      · rw [if_pos q, if_pos (by omega)]
      · rw [if_neg q, if_neg (by omega)]
  · have n1 : (oc gM N k)[j]? = none := Array.getElem?_eq_none (by rw [oc_size]; omega)
    have n2 : (oc gM N (k + 1))[j]? = none := Array.getElem?_eq_none (by rw [oc_size]; omega)
    rw [n1, n2, if_neg (by omega)]
set_option maxRecDepth 100000 in
theorem info4 : (Try.prog.info? 4).map (fun i => (i.zero, i.size, i.bytes)) = some (some (.bool false), 1, 1) := by kernel_rfl
def mkB (l c : Value) : Sem Value := Instr.makeSlice 67 l c
theorem toMkB (l c : Value) : Instr.makeSlice 67 l c = mkB l c := rfl
set_option maxRecDepth 1000000 in
theorem run_mkB (w : World) (n : Nat) (hn : n ≤ 1048576) : ∃ w', (mkB (.int .i64 (n : Int)) (.int .i64 (n : Int))).run Try.prog w = .ok (.slice (some ⟨w.heap.size, 0, none⟩) n n) w' ∧ w'.heap[w.heap.size]? = some (.cells (bk n (fun _ => false)) 4 (0, 0)) ∧ Below w.heap.size w w' ∧ w'.heap.size = w.heap.size + 1 := by
  obtain ⟨i0, hi0, hz0, hz1, hz2⟩ := info_parts info4
  have hr := run_make (P := Try.prog) w 67 4 i0 _ (by kernel_rfl) hi0 hz0 .i64 .i64 n n (by omega) (Int.le_refl _) (by rw [hz2]; omega) (by omega)
  simp only [Int.toNat_natCast] at hr
  refine ⟨_, hr, ?_, (Below.refl _ w).alloc (Nat.le_refl _) _, by simp⟩
  rw [heap_alloc_new, hz1, Nat.mul_one]
  congr 2
  apply Array.ext'
  have : (Value.bool false).cells = #[Value.bool false] := rfl
  rw [this, toList_madeCells_one]
  apply List.ext_getElem?
  intro k
  by_cases hk : k < n
  · simp [bk, hk]
  · simp [bk, hk]
section
variable {F : Nat → List Nat} {S : List Nat} {N K : Nat}
theorem eaLS_mem {p : Nat × Nat} : p ∈ eaL F S K ↔ p.2 < K ∧ DsS F S p.2 p.1 := by
  unfold eaL
  rw [List.mem_flatMap]
  constructor
  · rintro ⟨e, h1, h2⟩
    obtain ⟨v, h3, rfl⟩ := List.mem_map.1 h2
    exact ⟨List.mem_range.1 h1, lyrS_ds.1 ((srt_mem _ _).1 h3)⟩
  · rintro ⟨h1, h2⟩
    exact ⟨p.2, List.mem_range.2 h1, List.mem_map.2 ⟨p.1, (srt_mem _ _).2 (lyrS_ds.2 h2), rfl⟩⟩
theorem eaLS_nd (K : Nat) : ((eaL F S K).map Prod.fst).Nodup := by
  induction K with
  | zero => exact List.nodup_nil
  | succ K ih =>
    rw [eaL_succ, List.map_append, List.nodup_append]
    have e : List.map Prod.fst ((srt (lyr F S K).1).map fun v => (v, K)) = srt (lyr F S K).1 := by
      rw [List.map_map]
      exact List.map_id _
    rw [e]
    refine ⟨ih, srt_nd (lyr_nd1 _ K), fun x hx y hy q => ?_⟩
    subst q
    obtain ⟨p, hp, rfl⟩ := List.mem_map.1 hx
    have h1 := eaLS_mem.1 hp
    have h2 := lyrS_ds.1 ((srt_mem _ _).1 hy)
    have := h1.2.uniq h2
    omega
theorem eaLS_lt (hS : ∀ x ∈ S, x < N) (hF : ∀ v, v < N → ∀ x ∈ F v, x < N) {x : Nat} (h : x ∈ (eaL F S K).map Prod.fst) : x < N := by
  obtain ⟨p, hp, rfl⟩ := List.mem_map.1 h
  exact blS_lt hS hF _ _ (eaLS_mem.1 hp).2.1
/-- Of the first i nodes, those that are in a list. -/
def inM (M : List Nat) (i : Nat) : List Nat := (List.range i).filter fun v => decide (v ∈ M)
theorem inM_yes {M : List Nat} {i : Nat} (h : i ∈ M) : inM M (i + 1) = inM M i ++ [i] := by
  unfold inM
  rw [List.range_succ, List.filter_append]
  simp [h]
theorem inM_no {M : List Nat} {i : Nat} (h : i ∉ M) : inM M (i + 1) = inM M i := by
  unfold inM
  rw [List.range_succ, List.filter_append]
  simp [h]
theorem inM_len (M : List Nat) (i : Nat) : (inM M i).length ≤ i := by
  unfold inM
  have := List.length_filter_le (fun v => decide (v ∈ M)) (List.range i)
  rw [List.length_range] at this
  exact this
theorem inM_all (hS : ∀ x ∈ S, x < N) (hF : ∀ v, v < N → ∀ x ∈ F v, x < N) : inM ((eaL F S K).map Prod.fst) N = srt ((eaL F S K).map Prod.fst) :=
  rise_eq (List.Pairwise.filter _ List.pairwise_lt_range) (srt_rise (eaLS_nd K)) fun x => by
    rw [srt_mem]
    unfold inM
    rw [List.mem_filter, List.mem_range, decide_eq_true_iff]
    exact ⟨fun h => h.2, fun h => ⟨eaLS_lt hS hF h, h⟩⟩
end
/-- The error that a search from these roots answers, if any. -/
def ErV (N : Int) (E : List (Int × Int)) (l : List Int) (e0 : Nat) : Prop := ((chk N E).1 ≠ 0 ∧ e0 = (chk N E).1) ∨ ((chk N E).1 = 0 ∧ okL N.toNat l = false ∧ e0 = 82)
theorem ErV.no0 {N : Int} {E : List (Int × Int)} {l : List Int} {e0 : Nat} (h : ErV N E l e0) : e0 ≠ 0 := by
  rcases h with ⟨h1, rfl⟩ | ⟨-, -, rfl⟩
  · exact h1
  · decide
theorem ErV.uniq {N : Int} {E : List (Int × Int)} {l : List Int} {e0 e1 : Nat} (h : ErV N E l e0) (k : ErV N E l e1) : e0 = e1 := by
  rcases h with ⟨h1, rfl⟩ | ⟨h1, -, rfl⟩
  · rcases k with ⟨-, rfl⟩ | ⟨k1, -⟩
    · rfl
    · exact absurd k1 h1
  · rcases k with ⟨k1, -⟩ | ⟨-, -, rfl⟩
    · exact absurd h1 k1
    · rfl
/-- There is a graph, and these are nodes of it. -/
def OkV (N : Int) (E : List (Int × Int)) (l : List Int) (n : Nat) (F : List (Nat × Nat)) (S : List Nat) : Prop := N = (n : Int) ∧ E = zE F ∧ l = S.map (fun x : Nat => (x : Int)) ∧ (chk N E).1 = 0 ∧ (∀ x ∈ S, x < n)
theorem nat_inj {S T : List Nat} (h : S.map (fun x : Nat => (x : Int)) = T.map (fun x : Nat => (x : Int))) : S = T := by
  induction S generalizing T with
  | nil => cases T with
    | nil => rfl
    | cons y T => cases h
  | cons x S ih => cases T with
    | nil => cases h
    | cons y T =>
      simp only [List.map_cons, List.cons.injEq, Int.natCast_inj] at h
      obtain ⟨h1, h2⟩ := h
      rw [h1, ih h2]
theorem zE_inj {F G : List (Nat × Nat)} (h : zE F = zE G) : F = G := by
  induction F generalizing G with
  | nil => cases G with
    | nil => rfl
    | cons y T => cases h
  | cons x S ih => cases G with
    | nil => cases h
    | cons y T =>
      obtain ⟨a, b⟩ := x
      obtain ⟨c, d⟩ := y
      simp only [zE, List.map_cons, List.cons.injEq, Prod.mk.injEq, Int.natCast_inj] at h
      obtain ⟨⟨h1, h3⟩, h2⟩ := h
      rw [h1, h3, ih (G := T) h2]
theorem OkV.uniq {N : Int} {E : List (Int × Int)} {l : List Int} {n n' : Nat} {F F' : List (Nat × Nat)} {S S' : List Nat} (h : OkV N E l n F S) (k : OkV N E l n' F' S') : n = n' ∧ F = F' ∧ S = S' := by
  obtain ⟨rfl, rfl, rfl, -⟩ := h
  obtain ⟨k1, k2, k3, -⟩ := k
  exact ⟨by omega, zE_inj k2, nat_inj k3⟩
theorem OkV.no {N : Int} {E : List (Int × Int)} {l : List Int} {n : Nat} {F : List (Nat × Nat)} {S : List Nat} {e0 : Nat} (h : OkV N E l n F S) (k : ErV N E l e0) : False := by
  obtain ⟨rfl, rfl, rfl, h4, h5⟩ := h
  rcases k with ⟨k1, -⟩ | ⟨-, k2, -⟩
  · exact k1 h4
  · rw [Int.toNat_natCast] at k2
    have : okL n (S.map fun x : Nat => (x : Int)) = true := by
      unfold okL
      rw [List.all_eq_true]
      intro x hx
      obtain ⟨y, hy, rfl⟩ := List.mem_map.1 hx
      have := h5 y hy
      simp only [decide_eq_true_eq]
      omega
    rw [this] at k2
    cases k2
/-- What Close answers, as a list and an error. -/
def ClV (N : Int) (E : List (Int × Int)) (l : List Int) (L : List Nat) (e0 : Nat) : Prop := (ErV N E l e0 ∧ L = []) ∨ ∃ n F S K, OkV N E l n F S ∧ (lyr (ndF n F) S K).1 = [] ∧ e0 = 0 ∧ L = srt ((eaL (ndF n F) S K).map Prod.fst)
theorem clv_uniq {N : Int} {E : List (Int × Int)} {l : List Int} {L L' : List Nat} {e0 e1 : Nat} (h : ClV N E l L e0) (k : ClV N E l L' e1) : L = L' ∧ e0 = e1 := by
  rcases h with ⟨h1, rfl⟩ | ⟨n, F, S, K, h1, h2, rfl, rfl⟩
  · rcases k with ⟨k1, rfl⟩ | ⟨n, F, S, K, k1, k2, rfl, rfl⟩
    · exact ⟨rfl, h1.uniq k1⟩
    · exact (k1.no h1).elim
  · rcases k with ⟨k1, rfl⟩ | ⟨n', F', S', K', k1, k2, rfl, rfl⟩
    · exact (h1.no k1).elim
    · obtain ⟨rfl, rfl, rfl⟩ := h1.uniq k1
      rw [eaL_same h2 k2]
      exact ⟨rfl, rfl⟩
def ClP (N : Int) (E : List (Int × Int)) (l : List Int) (w : World) (e : Ending) (w' : World) : Prop := ∃ (L : List Nat) (e0 : Nat) (o : Option Addr) (m c : Nat), e = .returned (.tuple #[.slice o m c, .int .i64 (e0 : Int)]) ∧ L.length = m ∧ w'.ownsRow w.heap.size 3 1 (.slice o m c) m (ik L).toList ∧ Below w.heap.size w w' ∧ ClV N E l L e0
theorem cl_err {N : Int} {E : List (Int × Int)} {l : List Int} {w w' : World} {e0 : Nat} (h : ErV N E l e0) (hb : Below w.heap.size w w') : ClP N E l w (.returned (.tuple #[.slice none 0 0, .int .i64 (e0 : Int)])) w' := ⟨[], e0, none, 0, 0, rfl, rfl, World.ownsRow_nil _ _ _ _, hb, .inl ⟨h, rfl⟩⟩
/-- The marks while they are set. -/
def Mk8 (W : World) (gI n : Nat) (M : List Nat) (i : Nat) (wr : World) : Prop := Below W.heap.size W wr ∧ wr.heap[gI]? = some (.cells (bk n fun v => decide (v ∈ M.take i)) 4 (0, 0))
theorem mk8_step {n i x : Nat} {M : List Nat} (hi : i < M.length) (hx : M.getD i 0 = x) : (bk n fun v => decide (v ∈ M.take i)).setIfInBounds x (.bool true) = bk n fun v => decide (v ∈ M.take (i + 1)) := by
  rw [bk_set]
  apply bk_congr
  intro j _
  rw [take_snocN hi, hx]
  by_cases q : j = x
  · subst q; simp
  · simp [q]
theorem Mk8.step {W wr : World} {gI n i x : Nat} {M : List Nat} (h : Mk8 W gI n M i wr) (hi : i < M.length) (hx : M.getD i 0 = x) (hg : W.heap.size ≤ gI) (hxn : x < n) : (∃ u, wr.cell? ⟨gI, x, none⟩ = some u) ∧ wr.frozen? ⟨gI, x, none⟩ = false ∧ Mk8 W gI n M (i + 1) (wr.setCell ⟨gI, x, none⟩ (.bool true)) := by
  obtain ⟨h1, h2⟩ := h
  refine ⟨⟨_, (cell_of_row _ _ _ _ _ _ h2).trans (bk_get _ _ x hxn)⟩, frozen_of_row _ _ _ _ _ h2, h1.setCell (by show W.heap.size ≤ gI; exact hg) _, ?_⟩
  rw [heap_setCell_same _ _ _ _ _ _ h2, mk8_step hi hx]
theorem mem_take_all {M : List Nat} {v : Nat} : decide (v ∈ M.take M.length) = decide (v ∈ M) := by rw [List.take_length]
attribute [local go_sem ↓] toApI toMkB
set_option maxRecDepth 100000 in
set_option maxHeartbeats 6400000 in
theorem closeR_any (N : Int) (E : List (Int × Int)) (l : List Int) (v rv : Value) {g0 : Nat} (w : World) (hv : El v E w) (hR : Ia g0 rv l w) (hl0 : l.length < 1000000000) :
    Calls Try.prog 15 #[grV N v, rv] w (ClP N E l w) := by
  obtain ⟨kG, hkG⟩ : ∃ k, w.heap.size = k := ⟨_, rfl⟩
  obtain ⟨W0, hW0⟩ : ∃ W0, w.alloc (.cells #[.int .i64 N, v] 24) = W0 := ⟨_, rfl⟩
  have b0 : Below w.heap.size w W0 := by rw [← hW0]; exact (Below.refl _ w).alloc (Nat.le_refl _) _
  have r0 : W0.heap[kG]? = some (.cells #[.int .i64 N, v] 24 (0, 0)) := by rw [← hW0, ← hkG]; exact heap_alloc_new _ _
  have C1 := listed_any N E l v rv W0 (hv.below b0) (hR.below b0) hl0
  have l0 : W0.cell? ⟨kG, 0, none⟩ = some (.int .i64 N) := (cell_of_row _ _ _ _ _ _ r0).trans rfl
  have l1 : W0.cell? ⟨kG, 1, none⟩ = some v := (cell_of_row _ _ _ _ _ _ r0).trans rfl
  obtain ⟨oo, cc, hvv, -, -⟩ := hv.form
  have HB0 := mkHid b0
  unfold grV at C1 ⊢
  clear hv b0 r0 hvv hR hl0
  go_enter Try.func15, Try.ntmps15
  go_wp2_with fail
  try rw [hkG]
  try rw [hW0]
  refine C1.mono ?_
  rintro e W1 ⟨b1, ⟨e0, h0, rfl, hE⟩ | ⟨n, F, S, K, o1, o2, m, c1, c2, hN, hEF, hlS, hch, hS, hK, hm, rfl, q1, q2⟩⟩
  · have HR := mkHid (cl_err (w := w) (N := N) (E := E) (l := l) hE (HB0.out.trans (b1.mono HB0.out.size)))
    have n0 : ((e0 : Int) == 0) = false := by simpa using h0
    have n1 : ¬ ((e0 : Int) = 0) := by omega
    clear C1 b1 l0 l1 hE h0 hW0
    go_wp2_with fail
    first | exact HR.out | (go_ret2; exact HR.out)
  · subst hN
    have hn : n ≤ 8192 := by
      obtain ⟨n', F', e1, e2, -⟩ := chk_ok hch
      omega
    have g0 := cell_belowX b1 l0
    have hbW := HB0.out.trans (b1.mono HB0.out.size)
    obtain ⟨W2, s2, R2, b2, z2⟩ := run_mkB W1 n (by omega)
    obtain ⟨gI, hgI⟩ : ∃ k, W1.heap.size = k := ⟨_, rfl⟩
    rw [hgI] at s2 R2 z2
    obtain ⟨M, hM⟩ : ∃ M, (eaL (ndF n F) S K).map Prod.fst = M := ⟨_, rfl⟩
    have hML : M.length = m := by rw [← hM, List.length_map, hm]
    have hMlt : ∀ x ∈ M, x < n := fun x hx => eaLS_lt hS (fun v _ x hx => ndF_lt v x hx) (by rw [hM]; exact hx)
    have hMn : M.Nodup := by rw [← hM]; exact eaLS_nd K
    have hmn : m ≤ n := by rw [← hML]; exact nodup_len n _ hMn hMlt
    have ge := cell_belowX b2 g0
    rw [hM] at q1
    have HC : Hid (∀ L, L = inM M n → ∀ o c w', w'.ownsRow w.heap.size 3 1 (.slice o L.length c) L.length (ik L).toList → Below w.heap.size w w' → ClP (n : Int) E l w (.returned (.tuple #[.slice o L.length c, .int .i64 (0 : Int)])) w') := by
      intro L hL o c w' ho hb
      refine ⟨L, 0, o, _, c, rfl, rfl, ho, hb, .inr ⟨n, F, S, K, ⟨rfl, hEF, hlS, hch, hS⟩, hK, rfl, ?_⟩⟩
      rw [hL, ← hM]
      exact inM_all hS fun v _ x hx => ndF_lt v x hx
    have HM := mkHid (And.intro q1 (And.intro hML (And.intro hMlt (And.intro hmn (And.intro hn (And.intro hgI hbW))))))
    have H0 : Hid (Mk8 W1 gI n M 0 W2) := ⟨b2, by rw [R2]; simp⟩
    have HG := mkHid g0
    clear C1 b1 l0 l1 hEF hlS hch hS hK hm q1 q2 hM hML hMlt hMn hmn hn hbW b2 R2 z2 hgI ge hW0
    go_wp2_with fail
    go_loopw [10] (fun iv wr => ∃ i : Nat, iv = .int .i64 (i : Int) ∧ i ≤ m ∧ Hid (Mk8 W1 gI n M i wr)) (fun iv _ => m - (intOf iv).toNat)
    case atStart => exact ⟨0, rfl, Nat.zero_le _, H0⟩
    case round =>
      clear H0 s2 g0
      obtain ⟨i, rfl, hi, HI⟩ := hrel
      obtain ⟨q1, hML, hMlt, hmn, hn, hgI, hbW⟩ := HM.out
      by_cases hlt : i < m
      · obtain ⟨x, hx⟩ : ∃ x, M.getD i 0 = x := ⟨_, rfl⟩
        have hxn : x < n := hMlt x (by rw [← hx, List.getD_eq_getElem?_getD, List.getElem?_eq_getElem (by omega)]; exact List.getElem_mem _)
        have q1' := q1
        rw [← hML] at q1'
        obtain ⟨-, oV, cV', eV, hVc⟩ := own_get q1'
        rw [hML] at eV
        injection eV with e1 e2 e3
        obtain ⟨bV, e4, hbV, hbg, hcV⟩ := hVc (by omega)
        subst e1 e4
        have cx := cell_belowX HI.out.1 (hcV i (by omega))
        rw [hx] at cx
        obtain ⟨⟨u, d1⟩, d2, d3⟩ := HI.out.step (by omega) hx (Nat.le_of_eq hgI) hxn
        have HN := mkHid d3
        have HL := mkHid hlt
        have i0 := geI i
        have i1 := ltI hlt
        have x0 := geI x
        have x1 := ltI hxn
        have wi := wrapI i (by omega)
        clear q1 hML hMlt hmn hn hgI hbW hi HI hlt hx hxn q1' hVc e3 hbV hbg hcV d3
        go_wp2_with fail
        exact ⟨⟨i + 1, by first | (rw [wi]; rfl) | rfl, HL.out, HN.out⟩, by first | (rw [wi]; exact measI _ _ HL.out) | exact measI _ _ HL.out⟩
      · have i1 := nltI hlt
        have H3 : Hid (wr.heap[gI]? = some (.cells (bk n fun v => decide (v ∈ M)) 4 (0, 0)) ∧ Below W1.heap.size W1 wr) := by
          have h := HI.out
          rw [eqI hi hlt, ← hML] at h
          refine ⟨?_, h.1⟩
          rw [h.2, bk_congr fun j _ => mem_take_all]
        have g0 := cell_belowX H3.out.2 HG.out
        obtain ⟨Y, hY⟩ : ∃ Y, wr = Y := ⟨_, rfl⟩
        rw [hY] at H3 g0 ⊢
        have H4 : Hid (∃ L, L = inM M 0 ∧ L.length = 0 ∧ Tl Y L [] (.slice none 0 0) (.slice none 0 0) Y) := ⟨[], rfl, rfl, tl_nil Y⟩
        clear q1 hML hMlt hmn hn hgI hbW hi HI hlt hY
        go_wp2_with fail
        go_loopw [11, 12] (fun qv iv wr => ∃ (i a c : Nat) (o : Option Addr), iv = .int .i64 (i : Int) ∧ qv = .slice o a c ∧ i ≤ n ∧ Hid (∃ L, L = inM M i ∧ L.length = a ∧ Tl Y L [] (.slice o a c) (.slice none 0 0) wr)) (fun _ iv _ => n - (intOf iv).toNat)
        case atStart => exact ⟨0, 0, 0, _, rfl, rfl, Nat.zero_le _, H4⟩
        case round =>
          clear H4 g0
          rename_i g00
          obtain ⟨i, a, c, o, rfl, rfl, hi, HI⟩ := hrel
          obtain ⟨L, hL, hLa, T⟩ := HI.out
          have g0 := cell_belowX T.bel (cell_belowX H3.out.2 HG.out)
          by_cases hlt : i < n
          · have cM := cell_belowX T.bel ((cell_of_row _ _ _ _ _ _ H3.out.1).trans (bk_get _ _ i hlt))
            have HL := mkHid hlt
            have i0 := geI i
            have i1 := ltI hlt
            have wi := wrapI i (by have := HM.out.2.2.2.2.1; omega)
            by_cases hin : i ∈ M
            · rw [decide_eq_true hin] at cM
              obtain ⟨o', c', w', r1, r2, -⟩ := T.add1 i (by rw [hL]; have := inM_len M i; have := HM.out.2.2.2.2.1; omega)
              rw [hLa] at r1 r2
              have HN : Hid (∃ L, L = inM M (i + 1) ∧ L.length = a + 1 ∧ Tl Y L [] (.slice o' (a + 1) c') (.slice none 0 0) w') := ⟨_, by rw [inM_yes hin, hL], by simp [hLa], r2⟩
              clear hL hLa T hlt hi HI hin r2
              go_wp2_with fail
              exact ⟨⟨i + 1, a + 1, c', o', by first | (rw [wi]; rfl) | rfl, rfl, HL.out, HN⟩, by first | (rw [wi]; exact measI _ _ HL.out) | exact measI _ _ HL.out⟩
            · rw [decide_eq_false hin] at cM
              have HN : Hid (∃ L, L = inM M (i + 1) ∧ L.length = a ∧ Tl Y L [] (.slice o a c) (.slice none 0 0) wr) := ⟨L, by rw [inM_no hin, hL], hLa, T⟩
              clear hL hLa T hlt hi HI hin
              go_wp2_with fail
              exact ⟨⟨i + 1, a, c, o, by first | (rw [wi]; rfl) | rfl, rfl, HL.out, HN⟩, by first | (rw [wi]; exact measI _ _ HL.out) | exact measI _ _ HL.out⟩
          · have i1 := nltI hlt
            have HR : Hid (ClP (n : Int) E l w (.returned (.tuple #[.slice o a c, .int .i64 0])) wr) := by
              subst hLa
              have hb := HM.out.2.2.2.2.2.2.trans (H3.out.2.mono HM.out.2.2.2.2.2.2.size)
              exact HC.out L (by rw [hL, eqI hi hlt]) o c wr (own_mono T.o1 hb.size) (hb.trans (T.bel.mono hb.size))
            clear hL hLa T hlt hi HI
            go_wp2_with fail
            first | exact HR.out | (go_ret2; exact HR.out)
end Go.Proofs.Ytgedmfcfhdfoeaa
