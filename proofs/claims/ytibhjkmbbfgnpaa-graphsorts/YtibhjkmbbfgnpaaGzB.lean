/- Graphs: a search that goes deep: appendEnded. -/
import Derived.Test.YtibhjkmbbfgnpaaGzA
namespace Go.Proofs.Ytibhjkmbbfgnpaa
open Go.RowKit GM
set_option maxRecDepth 20000
/-- The least that fits. -/
noncomputable def lst (p : Nat → Prop) : Nat := Classical.epsilon fun m => p m ∧ ∀ k, p k → m ≤ k
theorem lst_spec {p : Nat → Prop} (h : ∃ m, p m) : p (lst p) ∧ ∀ k, p k → lst p ≤ k := by
  have := Classical.epsilon_spec (p := fun m => p m ∧ ∀ k, p k → m ≤ k) (by
    obtain ⟨m, hm⟩ := h
    obtain ⟨K, -, h2, h3⟩ := least_of m ⟨m, Nat.le_refl _, hm⟩
    exact ⟨K, h2, fun k hk => by
      by_cases q : k < K
      · exact absurd hk (h3 k q)
      · omega⟩)
  exact this
theorem lst_less {p q : Nat → Prop} {k : Nat} (hk : q k) (hl : k < lst p) : lst q < lst p := by
  have := (lst_spec ⟨k, hk⟩).2 k hk
  omega
/-- What is left to do. -/
def wt (N : Nat) (T : List Tr) (L : List Nat) : Nat := (N - (L.length + T.length)) * (N + 2) + (T.map fun t => t.2.1.length + 1).sum
theorem wt_pop (N s : Nat) (A : List Tr) (L : List Nat) (rv : Value) : wt N A (L ++ [s]) < wt N (A ++ [(s, [], rv)]) L := by
  unfold wt
  have e : (L ++ [s]).length + A.length = L.length + (A ++ [(s, ([] : List Nat), rv)]).length := by simp; omega
  rw [e]
  simp
theorem wt_skip (N s x : Nat) (A : List Tr) (L r : List Nat) (rv rv' : Value) : wt N (A ++ [(s, r, rv')]) L < wt N (A ++ [(s, x :: r, rv)]) L := by
  unfold wt
  simp
theorem wt_push (N s x y : Nat) (A : List Tr) (L r Fx : List Nat) (rv rv' vx : Value) (h : L.length + (A.length + 1) + 1 ≤ N) (hx : Fx.length ≤ N) : wt N ((A ++ [(s, r, rv')]) ++ [(x, Fx, vx)]) L < wt N (A ++ [(s, y :: r, rv)]) L := by
  unfold wt
  obtain ⟨k, hk⟩ : ∃ k, N - (L.length + (A.length + 1 + 1)) = k := ⟨_, rfl⟩
  have hk2 : N - (L.length + (A.length + 1)) = k + 1 := by omega
  simp only [List.length_append, List.map_append, List.map_cons, List.map_nil, List.sum_append, List.sum_cons, List.sum_nil, List.length_cons, List.length_nil, Nat.zero_add]
  rw [hk, hk2, Nat.succ_mul]
  omega
/-- Between two rounds. -/
def Er (W : World) (F : Nat → List Nat) (N B0 b : Nat) (ev0 : Value) (M0 E0 : List Nat) (gv : Nat → Nat) (a ne : Nat) (ev : Value) (ns : Nat) (sv : Value) (w : World) (m : Nat) : Prop :=
  ∃ T L M, Em W B0 b ev0 E0 gv T L M ne ev ns sv w ∧ Ad F (fun x => x ∈ M0) a L (tS T) ∧ (∀ x, x ∈ M ↔ x ∈ M0 ∨ x ∈ L ∨ x ∈ (tS T).map Prod.fst) ∧ M.length = M0.length + L.length + T.length ∧ m = wt N T L
def Es (W : World) (F : Nat → List Nat) (N B0 b : Nat) (ev0 : Value) (M0 E0 : List Nat) (gv : Nat → Nat) (a : Nat) (ev sv : Value) (w : World) (m : Nat) : Prop := ∃ ne ns, Er W F N B0 b ev0 M0 E0 gv a ne ev ns sv w m
theorem own_num {w : World} {B e s n m c : Nat} {o : Option Addr} {xs : List Value} (h : w.ownsRow B e s (.slice o n c) m xs) : n = m := by
  obtain ⟨_, _, e⟩ := own_size h
  injection e
theorem nil_or_snoc {α : Type} (T : List α) : T = [] ∨ ∃ A t, T = A ++ [t] := by
  rcases List.eq_nil_or_concat T with h | ⟨A, t, h⟩
  · exact .inl h
  · exact .inr ⟨A, t, by rw [h, List.concat_eq_append]⟩
theorem wrS2 {n j : Nat} (h : n = j + 1) (h2 : n < 1000000000) : wrap64 ((n : Int) - 1) = (j : Int) := by unfold wrap64; omega
/-- What appendEnded answers. -/
def EnP (W : World) (F : Nat → List Nat) (B0 b : Nat) (ev0 : Value) (M0 E0 : List Nat) (a : Nat) (e : Ending) (w' : World) : Prop :=
  ∃ L n v' M, e = .returned v' ∧ Ae F (fun x => x ∈ M0) a L ∧ w'.ownsRow B0 3 1 v' n (ik (E0 ++ L)).toList ∧ Mks w' b M ∧ (∀ x, x ∈ M ↔ x ∈ M0 ∨ x ∈ L) ∧ M.length = M0.length + L.length ∧ Rm.Frm (fun k => k = b ∨ ev0.ownBlock = some k) W w' ∧ ∀ k, v'.ownBlock = some k → ev0.ownBlock = some k ∨ W.heap.size ≤ k
/-- What must hold ahead. -/
structure Eh (w : World) (F : Nat → List Nat) (N B0 b g : Nat) (gv : Nat → Nat) (V : Nat → Value) (ev0 : Value) (M0 E0 : List Nat) (n0 : Nat) (a : Nat) : Prop where
  en : w.ownsRow B0 3 1 ev0 n0 (ik E0).toList
  hB : B0 ≤ w.heap.size
  me : Mks w b M0
  cl : ∀ u, u ∈ M0 → ∀ x, x ∈ F u → x ∈ M0
  aN : a < N
  hN : N ≤ 1000000
  ro : ∀ v, v < N → w.cell? ⟨g, v, none⟩ = some (V v) ∧ Ilc (gv v) (V v) (F v) w
  hF : ∀ v, v < N → ∀ x ∈ F v, x < N
  hl : ∀ v, v < N → (F v).length ≤ N
  gg : g ≠ b ∧ ev0.ownBlock ≠ some g
  gvb : ∀ v, v < N → 0 < (F v).length → gv v ≠ b ∧ ev0.ownBlock ≠ some (gv v)
  m0 : M0.length ≤ 1000000
  e0 : E0.length ≤ 1000000
/-- At the beginning. -/
theorem er_zero {w w1 : World} {F : Nat → List Nat} {N B0 b g : Nat} {gv : Nat → Nat} {V : Nat → Value} {ev0 : Value} {M0 E0 : List Nat} {n0 a : Nat} (h : Eh w F N B0 b g gv V ev0 M0 E0 n0 a) (ha : a ∉ M0) (q1 : Mks w1 b (a :: M0)) (q2 : Rm.Frm (fun k => k = b) w w1) :
    Er w F N B0 b ev0 M0 E0 gv a n0 ev0 1 (.slice (some ⟨w1.heap.size, 0, none⟩) 1 1) (w1.alloc (.cells #[.int .i64 (a : Int), V a] 140)) (wt N [(a, F a, V a)] []) := by
  have b2 : Below w1.heap.size w1 (w1.alloc (.cells #[.int .i64 (a : Int), V a] 140)) := (Below.refl _ w1).alloc (Nat.le_refl _) _
  refine ⟨[(a, F a, V a)], [], a :: M0, ⟨?_, ?_, fun k hk => .inl hk, q1.keep (b2.block b q1.lt), ?_, fun t ht => ?_⟩, ad_zero ha, fun x => ?_, by simp, rfl⟩
  · exact ⟨b2.os.trans q2.os, b2.tape.trans q2.tape, b2.output.trans q2.output, Nat.le_trans q2.size b2.size, fun k hk hx => (b2.block k (Nat.lt_of_lt_of_le hk q2.size)).trans (q2.blk k hk fun e => hx (.inl e))⟩
  · rw [List.append_nil]
    refine own_keep2 h.en fun k hk => (b2.block k (Nat.lt_of_lt_of_le (h.en.lt k hk).2 q2.size)).trans (q2.blk k (h.en.lt k hk).2 fun e => ?_)
    obtain ⟨C', hC'⟩ := own_tyI h.en hk
    exact h.me.row hC' e.symm
  · exact ⟨rfl, .inr ⟨w1.heap.size, 1, _, rfl, q2.size, heap_alloc_new _ _, Nat.le_refl _, by unfold maxLen; omega, rfl, rfl⟩⟩
  · rw [List.mem_singleton.1 ht]
    exact (h.ro a h.aN).2
  · simp [tS]
    constructor
    · rintro (q | q)
      · exact .inr q
      · exact .inl q
    · rintro (q | q)
      · exact .inr q
      · exact .inl q
attribute [local go_sem ↓] toApI toApV toSlV
set_option maxRecDepth 100000 in
set_option maxHeartbeats 6400000 in
theorem ended_any (w : World) {F : Nat → List Nat} {N B0 b g : Nat} {gv : Nat → Nat} {V : Nat → Value} {ev0 : Value} {M0 E0 : List Nat} {n0 a : Nat} (h : Eh w F N B0 b g gv V ev0 M0 E0 n0 a) :
    Calls Try.prog 87 #[ev0, .int .i64 (a : Int), nOf g N, .map (some b)] w (EnP w F B0 b ev0 M0 E0 a) := by
  obtain ⟨oe, ce, rfl⟩ := own_size h.en
  have C := mark_any w h.me (v := a) (by have := h.aN; have := h.hN; omega) (by have := h.m0; omega)
  have H := mkHid h
  unfold nOf
  by_cases ha : a ∈ M0
  · rw [show decide (a ∉ M0) = false by simp [ha], mkk, if_pos ha] at C
    have HA := mkHid ha
    clear h ha
    go_enter Try.func87, Try.ntmps87
    go_wp2_with fail
    refine C.mono ?_
    rintro e w1 ⟨rfl, q1, q2⟩
    have HQ := mkHid (And.intro q1 q2)
    clear C q1 q2
    go_wp2_with fail
    go_ret
    obtain ⟨q1, q2⟩ := HQ.out
    have hen := H.out.en
    refine ⟨[], n0, _, M0, rfl, ae_none H.out.cl HA.out, ?_, q1, fun x => by simp, by simp, q2.wide fun _ _ h => .inl h, fun k hk => .inl hk⟩
    rw [List.append_nil]
    exact own_keep2 hen fun k hk => q2.blk k (hen.lt k hk).2 fun e => by
      obtain ⟨C', hC'⟩ := own_tyI hen hk
      exact H.out.me.row hC' e.symm
  · rw [show decide (a ∉ M0) = true by simp [ha], mkk, if_neg ha] at C
    have HA := mkHid ha
    clear h ha
    go_enter Try.func87, Try.ntmps87
    go_wp2_with fail
    refine C.mono ?_
    rintro e w1 ⟨rfl, q1, q2⟩
    obtain ⟨ro1, ro2⟩ := H.out.ro a H.out.aN
    obtain ⟨ov, cv, eV, -⟩ := id ro2.il
    have ro3 : w1.cell? ⟨g, a, none⟩ = some (V a) := (World.cell?_of_block (w := w) (a := ⟨g, a, none⟩) (q2.blk g (World.block_lt_of_cell? w _ ro1) H.out.gg.1)).trans ro1
    rw [eV] at ro3
    have CO := of_cell w1 (g := g) (N := N) ro3 H.out.aN
    have HQ := mkHid (And.intro q1 q2)
    obtain ⟨ln, hln⟩ : ∃ n, (F a).length = n := ⟨_, rfl⟩
    rw [hln] at CO
    have HV := mkHid (And.intro eV (And.intro ro2 hln))
    clear C q1 q2 ro1 ro2 ro3 eV hln
    go_wp2_with fail
    refine CO.mono ?_
    rintro e w2 ⟨rfl, rfl⟩
    clear CO
    have H0 : Hid (∃ m, Er w F N B0 b (.slice oe n0 ce) M0 E0 gv a n0 (.slice oe n0 ce) 1 (.slice (some ⟨w2.heap.size, 0, none⟩) 1 1) (w2.alloc (.cells #[.int .i64 (a : Int), .slice ov ln cv] 140)) m) := by
      have := er_zero H.out HA.out HQ.out.1 HQ.out.2
      rw [HV.out.1, HV.out.2.2] at this
      exact ⟨_, this⟩
    clear HQ
    go_wp2_with fail
    have H1 : Hid (∃ m, Es w F N B0 b (.slice oe n0 ce) M0 E0 gv a (.slice oe n0 ce) (.slice (some ⟨w2.heap.size, 0, none⟩) 1 1) (w2.alloc (.cells #[.int .i64 (a : Int), .slice ov ln cv] 140)) m) := let ⟨m, hm⟩ := H0.out; ⟨m, _, _, hm⟩
    go_loopw [9, 0] (fun sv ev wr => ∃ (os oe' : Option Addr) (ns cs ne ce' : Nat), sv = .slice os ns cs ∧ ev = .slice oe' ne ce' ∧ Hid (∃ m, Es w F N B0 b (.slice oe n0 ce) M0 E0 gv a (.slice oe' ne ce') (.slice os ns cs) wr m)) (fun sv ev wr => lst (Es w F N B0 b (.slice oe n0 ce) M0 E0 gv a ev sv wr))
    case atStart => exact ⟨_, oe, 1, 1, n0, ce, rfl, rfl, H1⟩
    case round =>
      obtain ⟨os, oe', ns, cs, ne, ce', rfl, rfl, HI⟩ := hrel
      obtain ⟨⟨ne2, ns2, T, L, M, hm, had, hM, hMl, hwt⟩, -⟩ := lst_spec HI.out
      have e1 := own_num hm.st
      have e2 := own_num hm.en
      subst e1 e2
      have hlen := had.len H.out.aN H.out.hF
      rw [tS_len] at hlen
      clear H0 H1 HI
      rcases nil_or_snoc T with rfl | ⟨A, ⟨s, q, rv⟩, rfl⟩
      · have hns : ns = 0 := by
          have := hm.st.1
          rw [show ck ([] : List Tr) = [] from rfl] at this
          simp at this
          omega
        subst hns
        have HF : Hid (EnP w F B0 b (.slice oe n0 ce) M0 E0 a (.returned (.slice oe' ne ce')) wr) := ⟨L, ne, _, M, rfl, had.done H.out.cl, hm.en, hm.mks, fun x => by have := hM x; simpa [tS] using this, by simpa using hMl, hm.frm, hm.enb⟩
        clear hm had hM hMl hwt hlen
        go_wp2_with fail
        go_ret
        exact HF.out
      · obtain ⟨hns, gs, c, e, hgs, hnc, c0, c1, fz, -⟩ := own_top hm.st
        injection e with e1 e2 e3
        subst e1 e3
        obtain ⟨⟨orv, crv, erv, hrv⟩, hcp⟩ := hm.il (s, q, rv) (by simp)
        have erv : rv = .slice orv q.length crv := erv
        subst erv
        have hqc : q.length ≤ crv := by
          obtain ⟨_, _, e, h⟩ := hcp
          injection e with e1 e2 e3
          rw [e3]
          exact h
        clear hcp
        obtain ⟨j, hj⟩ : ∃ j, A.length = j := ⟨_, rfl⟩
        have hln : L.length + (j + 1) ≤ N := by
          rw [← hj]
          simpa using hlen
        rw [hj] at c0 c1 hns
        have n0' : (0 : Int) < (ns : Int) := by omega
        have w1 := wrS2 hns (by have := H.out.hN; omega)
        have j0 := geI j
        have j1 := ltI (show j < ns by omega)
        have fz1 := fz (j * 2 + 1)
        have c0' : wr.cell? ⟨gs, j * 2, none⟩ = some (.int .i64 (s : Int)) := c0
        have c1' : wr.cell? ⟨gs, j * 2 + 1, none⟩ = some (.slice orv q.length crv) := c1
        have HN : Hid (ns = j + 1) := hns
        cases q with
        | nil =>
          have hne : ne ≤ 2000001 := by
            have h1 := hm.en.1
            have h2 := H.out.e0
            have h3 := H.out.hN
            simp [ik] at h1
            omega
          obtain ⟨o', c', w3, r1, hm3⟩ := hm.pop rfl H.out.hB (by omega)
          have had3 : Ad F (fun x => x ∈ M0) a (L ++ [s]) (tS A) := Ad.pop H.out.cl (by have := had; rw [tS_app] at this; exact this)
          have hM3 : ∀ x, x ∈ M ↔ x ∈ M0 ∨ x ∈ L ++ [s] ∨ x ∈ (tS A).map Prod.fst := fun x => by
            rw [hM x, tS_app, List.map_append, List.mem_append, List.mem_append]
            simp [tS]
            constructor
            · rintro (q | q | q | q)
              · exact .inl q
              · exact .inr (.inl (.inl q))
              · exact .inr (.inr q)
              · exact .inr (.inl (.inr q))
            · rintro (q | (q | q) | q)
              · exact .inl q
              · exact .inr (.inl q)
              · exact .inr (.inr (.inr q))
              · exact .inr (.inr (.inl q))
          have rc := run_cutV w3 gs ns cs j (by omega)
          have hnj : ns - 1 = j := by omega
          rw [hnj] at hm3
          have HR : Hid (Es w F N B0 b (.slice oe n0 ce) M0 E0 gv a (.slice o' (ne + 1) c') (.slice (some ⟨gs, 0, none⟩) j cs) w3 (wt N A (L ++ [s])) ∧ wt N A (L ++ [s]) < lst (Es w F N B0 b (.slice oe n0 ce) M0 E0 gv a (.slice oe' ne ce') (.slice (some ⟨gs, 0, none⟩) ns cs) wr)) := ⟨⟨_, _, A, L ++ [s], M, hm3, had3, hM3, by rw [hMl]; simp; omega, rfl⟩, by rw [hwt]; exact wt_pop N s A L _⟩
          clear hm had hM hMl hwt hlen hln hne hm3 had3 hM3 hnj hrv c0 c1 fz hns hj hgs hnc
          go_wp2_with fail
          exact ⟨⟨_, o', j, cs, ne + 1, c', rfl, rfl, _, HR.out.1⟩, lst_less HR.out.1 HR.out.2⟩
        | cons x r =>
          have hrvp := hrv (Nat.succ_pos _)
          obtain ⟨off, eo, hgw, hcc⟩ := hrvp
          have eo : orv = some ⟨gv s, off, none⟩ := eo
          subst eo
          have hgw : gv s < w.heap.size := hgw
          have hvs := had.rch s (.inr (by rw [tS_app, List.map_append]; simp [tS]))
          have hsN : s < N := hvs.lt H.out.aN H.out.hF
          have hxs : x ∈ F s := ((had.sr (s, x :: r) (by rw [tS_app]; simp [tS])).1 x (by simp))
          have hxN := H.out.hF s hsN x hxs
          have hFp : 0 < (F s).length := List.length_pos_of_mem hxs
          have hgb := H.out.gvb s hsN hFp
          have cxx : ∀ i, i < (x :: r).length → w.cell? ⟨gv s, off + i, none⟩ = some (.int .i64 (((x :: r).getD i 0 : Nat) : Int)) := hcc
          have cx : wr.cell? ⟨gv s, off, none⟩ = some (.int .i64 (x : Int)) := (World.cell?_of_block (w := w) (a := ⟨gv s, off, none⟩) (hm.frm.blk _ hgw (fun e => e.elim hgb.1 hgb.2))).trans (cxx 0 (Nat.succ_pos _))
          obtain ⟨O', hO'⟩ : ∃ O', (if crv = 1 then some ⟨gv s, off, none⟩ else some ⟨gv s, off + 1, none⟩ : Option Addr) = O' := ⟨_, rfl⟩
          have hil : Ilc (gv s) (.slice O' r.length (crv - 1)) r w := by
            have hqc2 : r.length + 1 ≤ crv := hqc
            refine ⟨⟨O', crv - 1, rfl, fun hp => ⟨off + 1, ?_, hgw, fun i hi => ?_⟩⟩, O', crv - 1, rfl, by omega⟩
            · rw [← hO', if_neg (by omega)]
            · have := cxx (i + 1) (Nat.succ_lt_succ hi)
              rw [show off + (i + 1) = off + 1 + i by omega] at this
              rw [this, List.getD_cons_succ]
          have hbw := H.out.me.lt
          have hm3 := hm.set (rv' := .slice O' r.length (crv - 1)) rfl hbw hil
          rw [hj] at hm3
          obtain ⟨Y, hY⟩ : ∃ Y, wr.setCell ⟨gs, j * 2 + 1, none⟩ (.slice O' r.length (crv - 1)) = Y := ⟨_, rfl⟩
          rw [hY] at hm3
          have hMle : M.length ≤ 2000000 := by
            have := H.out.m0
            have := H.out.hN
            simp at hMl
            omega
          have CM := mark_any Y hm3.mks (v := x) (by have := H.out.hN; omega) (by omega)
          have m1 : (1 : Int) ≤ ((r.length + 1 : Nat) : Int) := by omega
          have m2 : ((r.length + 1 : Nat) : Int) ≤ (crv : Int) := by have : r.length + 1 ≤ crv := hqc; omega
          obtain ⟨k, hk⟩ : ∃ k, r.length = k := ⟨_, rfl⟩
          obtain ⟨m, hmk⟩ : ∃ m, k + 1 = m := ⟨_, rfl⟩
          rw [show (x :: r).length = m by rw [List.length_cons, hk, hmk]] at c1 c1'
          rw [hk, hmk] at m1 m2
          rw [hk] at hm3 hil hY
          have hmk1 : m - 1 = k := by omega
          have hS0 : tS (A ++ [(s, x :: r, Value.slice (some ⟨gv s, off, none⟩) (x :: r).length crv)]) = tS A ++ [(s, x :: r)] := tS_app _ _
          have hS1 : tS (A ++ [(s, r, Value.slice O' k (crv - 1))]) = tS A ++ [(s, r)] := tS_app _ _
          have hmap : (tS A ++ [(s, x :: r)]).map Prod.fst = (tS A ++ [(s, r)]).map Prod.fst := map_last _ _ _ _
          rw [hS0] at had hM
          rw [hmap] at hM
          by_cases hxM : x ∈ M
          · rw [show decide (x ∉ M) = false by simp [hxM], mkk, if_pos hxM] at CM
            have HS : Hid (∀ w3, Mks w3 b M → Rm.Frm (fun k => k = b) Y w3 → Es w F N B0 b (.slice oe n0 ce) M0 E0 gv a (.slice oe' ne ce') (.slice (some ⟨gs, 0, none⟩) ns cs) w3 (wt N (A ++ [(s, r, Value.slice O' k (crv - 1))]) L) ∧ wt N (A ++ [(s, r, Value.slice O' k (crv - 1))]) L < lst (Es w F N B0 b (.slice oe n0 ce) M0 E0 gv a (.slice oe' ne ce') (.slice (some ⟨gs, 0, none⟩) ns cs) wr)) := fun w3 h3 f3 =>
              ⟨⟨_, _, _, L, M, hm3.mark h3 f3, by rw [hS1]; exact had.skip ((hM x).1 hxM), fun z => by rw [hS1]; exact hM z, by rw [hMl]; simp, rfl⟩, by rw [hwt]; exact wt_skip N s x A L r _ _⟩
            clear hm had hM hMl hwt hlen hln hm3 hil hxM hS0 hS1 hmap hMle hbw cxx hgb hFp hxN hxs hsN hvs hgw hcc hrv hqc c0 c1 fz hns hgs hnc erv
            go_upto_region 11 with fail
            try rw [hO']
            try rw [hmk1]
            try rw [hY]
            go_wp2_with fail
            refine CM.mono ?_
            rintro e w3 ⟨rfl, q1, q2⟩
            have HE := mkHid (HS.out w3 q1 q2)
            clear q1 q2 CM HS
            go_wp2_with fail
            exact ⟨⟨_, oe', ns, cs, ne, ce', rfl, rfl, _, HE.out.1⟩, lst_less HE.out.1 HE.out.2⟩
          · rw [show decide (x ∉ M) = true by simp [hxM], mkk, if_neg hxM] at CM
            obtain ⟨ro1, ro2⟩ := H.out.ro x hxN
            obtain ⟨ovx, cvx, eVx, -⟩ := id ro2.il
            obtain ⟨lnx, hlnx⟩ : ∃ n, (F x).length = n := ⟨_, rfl⟩
            have hlx := H.out.hl x hxN
            rw [eVx] at ro2 ro1
            have had4 : Ad F (fun x => x ∈ M0) a L (tS (A ++ [(s, r, Value.slice O' k (crv - 1))] ++ [(x, F x, Value.slice ovx (F x).length cvx)])) := by
              rw [tS_app, hS1]
              exact had.push fun q => hxM ((hM x).2 q)
            have hM4 : ∀ z, z ∈ x :: M ↔ z ∈ M0 ∨ z ∈ L ∨ z ∈ (tS (A ++ [(s, r, Value.slice O' k (crv - 1))] ++ [(x, F x, Value.slice ovx (F x).length cvx)])).map Prod.fst := fun z => by
              rw [tS_app, hS1, List.map_append, List.mem_append, List.mem_cons, hM z]
              simp [tS]
              constructor
              · rintro (q | q | q | q)
                · exact .inr (.inr (.inr q))
                · exact .inl q
                · exact .inr (.inl q)
                · exact .inr (.inr (.inl q))
              · rintro (q | q | q | q)
                · exact .inr (.inl q)
                · exact .inr (.inr (.inl q))
                · exact .inr (.inr (.inr q))
                · exact .inl q
            have hln4 : L.length + (A.length + 1) + 1 ≤ N := by
              have := had4.len H.out.aN H.out.hF
              rw [tS_len] at this
              simp at this
              omega
            have HS : Hid (∀ w3, Mks w3 b (x :: M) → Rm.Frm (fun k => k = b) Y w3 → w3.cell? ⟨g, x, none⟩ = some (.slice ovx lnx cvx) ∧ ∃ os' cs' w4, (apV 141 #[.slice (some ⟨gs, 0, none⟩) ns cs, .slice (some ⟨w3.heap.size, 0, none⟩) 1 1]).run Try.prog (w3.alloc (.cells #[.int .i64 (x : Int), .slice ovx lnx cvx] 140)) = .ok (.slice os' (ns + 1) cs') w4 ∧
                Hid (∃ m, Es w F N B0 b (.slice oe n0 ce) M0 E0 gv a (.slice oe' ne ce') (.slice os' (ns + 1) cs') w4 m ∧ m < lst (Es w F N B0 b (.slice oe n0 ce) M0 E0 gv a (.slice oe' ne ce') (.slice (some ⟨gs, 0, none⟩) ns cs) wr))) := fun w3 h3 f3 => by
              have hg1 := World.block_lt_of_cell? w _ ro1
              have c3 : w3.cell? ⟨g, x, none⟩ = some (.slice ovx (F x).length cvx) := (World.cell?_of_block (w := w) (a := ⟨g, x, none⟩) ((f3.blk g (Nat.lt_of_lt_of_le hg1 hm3.frm.size) H.out.gg.1).trans (hm3.frm.blk g hg1 (fun e => e.elim H.out.gg.1 H.out.gg.2)))).trans ro1
              obtain ⟨os', cs', w4, r1, r2⟩ := (hm3.mark h3 f3).push (x := x) (r := F x) hbw (by have := H.out.hN; rw [hns, ← hj]; omega) ro2
              rw [hlnx] at c3 r1
              exact ⟨c3, os', cs', w4, r1, _, ⟨_, _, _, L, x :: M, r2, had4, hM4, by rw [List.length_cons, hMl]; simp; omega, rfl⟩, by rw [hwt]; exact wt_push N s x x A L r (F x) _ _ _ hln4 hlx⟩
            clear hm had hM hMl hwt hlen hln hm3 hil hxM hS0 hS1 hmap hMle hbw cxx hgb hFp hxs hsN hvs hgw hcc hrv hqc c0 c1 fz hns hgs hnc erv had4 hM4 hln4 ro1 ro2 eVx hlx hlnx
            have HX := mkHid hxN
            clear hxN
            go_upto_region 11 with fail
            try rw [hO']
            try rw [hmk1]
            try rw [hY]
            go_wp2_with fail
            refine CM.mono ?_
            rintro e w3 ⟨rfl, q1, q2⟩
            obtain ⟨c3, os', cs', w4, r1, HE⟩ := HS.out w3 q1 q2
            have CO := of_cell w3 (g := g) (N := N) c3 HX.out
            clear q1 q2 CM HS c3
            go_wp2_with fail
            refine CO.mono ?_
            rintro e w5 ⟨rfl, rfl⟩
            clear CO
            go_wp2_with fail
            obtain ⟨m', HE1, HE2⟩ := HE.out
            exact ⟨⟨_, oe', ns + 1, _, ne, ce', rfl, rfl, _, HE1⟩, lst_less HE1 HE2⟩
end Go.Proofs.Ytibhjkmbbfgnpaa
