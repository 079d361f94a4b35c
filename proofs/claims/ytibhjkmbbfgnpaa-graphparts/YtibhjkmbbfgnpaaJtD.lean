/- Several texts in one: GpF, GpG, GpH, GpK, HqH, HqK, HqU. -/
import Derived.Test.YtibhjkmbbfgnpaaJtB
import Derived.Shelf.SlSortCmp.Whole1
import Derived.Shelf.Lay
import Derived.Ground.SlsfProg
import Derived.Ground.NamesProg
import Derived.Test.YtibhjkmbbfgnpaaJtA
import Derived.Test.YtibhjkmbbfgnpaaJoD
import Derived.Test.YtibhjkmbbfgnpaaGoF
import Derived.Test.YtibhjkmbbfgnpaaHqF
import Derived.Test.YtibhjkmbbfgnpaaGi
import Derived.Test.YtibhjkmbbfgnpaaJoC
/- Graphs in groups: SortFunc of the groups. -/
namespace Go.Proofs.Ytibhjkmbbfgnpaa
open Go.RowKit GM Gl
set_option maxRecDepth 20000
shelf_lay_g SlLaysF.n6 Slsf 6 at Try 54 as Try.sortP
theorem sortF_any (w : World) {B n c : Nat} {o : Option Addr} {Ps : List (List Nat)} {vs : List Value} (h : Pl B (.slice o n c) n Ps vs w) (h0 : 0 < n) (hn : n < 1000000000) (hne : ∀ p ∈ Ps, 0 < p.length) :
    Calls Try.prog 54 #[.slice o n c, .func (.func 55) #[] #[]] w fun e w' => e = .returned (.tuple #[]) ∧ ∃ Ps' vs', Pl B (.slice o n c) n Ps' vs' w' ∧ Ps'.Perm Ps ∧ (Ps'.Pairwise fun p q => p.getD 0 0 ≤ q.getD 0 0) ∧ Rm.Frm (fun k => (Value.slice o n c).ownBlock = some k) w w' := by
  have hl : vs.length = n := by rw [h.len, ← h.num]
  have hlp : Ps.length = n := h.num.symm
  obtain ⟨-, h1⟩ := h.row
  rcases h1 with ⟨-, h1⟩ | ⟨g, cap, cur, e, hB, hg, hnc, hcm, hcs, htk⟩
  · rw [h1] at hl; simp at hl; omega
  · injection e with e1 e2 e3
    subst e1 e3
    haveI : Inhabited (Fin n) := finP h0
    have hone : OneCell (fun i : Fin n => vs.getD i.val default) := fun z => by
      have hz := z.isLt
      have v1 : vs[z.val]? = some (vs.getD z.val default) := by simp [List.getD, hl, hz]
      obtain ⟨m1, hm1⟩ := h.own z.val _ _ v1 (List.getElem?_eq_getElem (by rw [hlp]; exact hz))
      obtain ⟨o', c', e⟩ := own_size hm1
      show (vs.getD z.val default).oneCell' = true
      rw [e]
      rfl
    have hH : Go.Sort.Holds (fun i : Fin n => vs.getD i.val default) w g 0 (idP n) := holdsG (idP n) hg fun j hj => by
      rw [idP_size] at hj
      rw [idP_at hj]
      have : (cur.toList.take (n * 1))[j]? = vs[j]? := by rw [htk]
      rw [List.getElem?_take_of_lt (by omega), Array.getElem?_toList] at this
      rw [this]
      simp [List.getD, hl, hj]
    have C := Any.slices_SortFunc Try.sortP (fun i : Fin n => vs.getD i.val default) hone (fun i j : Fin n => cI (hdP Ps i.val) (hdP Ps j.val)) (swoP (hdP Ps) n) 55 #[] g 0 c (idP n) w entersGrp (by rw [idP_size]; exact grp_lays h hne) hH (Array.getElem?_eq_some_iff.1 hg).1 (by rw [idP_size]; omega)
    rw [idP_size] at C
    refine C.mono ?_
    rintro e w' ⟨rfl, d, m, os, q1, q2, rfl⟩
    obtain ⟨r1, r2, r3, r4⟩ := ord_lists hlp q1 q2
    refine ⟨rfl, _, _, h.order hg d r1 r2 m os, r3, r4, ?_⟩
    have f := srtW_frm (enc := fun i : Fin n => vs.getD i.val default) (w := w) (g := g) (n := m) (os := os) d
    exact ⟨f.os, f.tape, f.output, f.size, fun k hk hx => f.blk k hk fun e => hx (by rw [e]; rfl)⟩
end Go.Proofs.Ytibhjkmbbfgnpaa

/- Graphs in groups: groups, up to the sort of the groups. -/
namespace Go.Proofs.Ytibhjkmbbfgnpaa
open Go.RowKit GM Gl Gsx
set_option maxRecDepth 20000
section
variable {F : Nat → List Nat} {N : Nat} {Ps Qs : List (List Nat)} {p : List Nat}
theorem part_srt (h : Part F p) : Part F (srt p) := by
  obtain ⟨nd, v, hv, hm⟩ := h
  exact ⟨srt_nd nd, v, (srt_mem _ _).2 hv, fun x => (srt_mem _ _).trans (hm x)⟩
theorem scc_srt (h : Scc F N Ps) : Scc F N (Ps.map srt) := by
  refine ⟨fun p hp => ?_, fun p hp x hx => ?_, fun x hx => ?_, ?_⟩
  · obtain ⟨q, q1, rfl⟩ := List.mem_map.1 hp
    exact part_srt (h.pt q q1)
  · obtain ⟨q, q1, rfl⟩ := List.mem_map.1 hp
    exact h.lt q q1 x ((srt_mem _ _).1 hx)
  · obtain ⟨q, q1, q2⟩ := h.cv x hx
    exact ⟨srt q, List.mem_map.2 ⟨q, q1, rfl⟩, (srt_mem _ _).2 q2⟩
  · rw [List.pairwise_map]
    exact h.dj.imp fun k x hx hy => k x ((srt_mem _ _).1 hx) ((srt_mem _ _).1 hy)
theorem scc_perm (h : Scc F N Ps) (hp : Qs.Perm Ps) : Scc F N Qs := by
  refine ⟨fun p k => h.pt p (hp.mem_iff.1 k), fun p k => h.lt p (hp.mem_iff.1 k), fun x hx => ?_, ?_⟩
  · obtain ⟨q, q1, q2⟩ := h.cv x hx
    exact ⟨q, hp.mem_iff.2 q1, q2⟩
  · exact (hp.pairwise_iff (fun {a b} k x hx hy => k x hy hx)).2 h.dj
theorem scc_apart (h : Scc F N Ps) : ∀ (a b : Nat) (q r : List Nat), Ps[a]? = some q → Ps[b]? = some r → a ≠ b → ∀ x, x ∈ q → x ∉ r := by
  intro a b q r ha hb hne x hx hy
  obtain ⟨a1, a2⟩ := List.getElem?_eq_some_iff.1 ha
  obtain ⟨b1, b2⟩ := List.getElem?_eq_some_iff.1 hb
  have hd := List.pairwise_iff_getElem.1 h.dj
  rcases Nat.lt_or_gt_of_ne hne with k | k
  · have := hd a b a1 b1 k x
    rw [a2, b2] at this
    exact this hx hy
  · have := hd b a b1 a1 k x
    rw [a2, b2] at this
    exact this hy hx
theorem scc_len0 (h : Scc F N Ps) (hN : 0 < N) : 0 < Ps.length := by
  obtain ⟨p, hp, -⟩ := h.cv 0 hN
  exact List.length_pos_of_mem hp
theorem scc_pos (h : Scc F N Ps) : ∀ p ∈ Ps, 0 < p.length := fun p hp => by
  obtain ⟨-, z, hz, -⟩ := h.pt p hp
  exact List.length_pos_of_mem hz
theorem scc_plen (h : Scc F N Ps) : ∀ p ∈ Ps, p.length ≤ N := fun p hp => by
  have := List.Nodup.length_le_of_subset (l₁ := p) (l₂ := List.range N) (h.pt p hp).1 (fun x hx => List.mem_range.2 (h.lt p hp x hx))
  simpa using this
end
/-- One of the lists, with its memory. -/
theorem pl_own {B n c i : Nat} {o : Option Addr} {Ps : List (List Nat)} {vs : List Value} {w : World} (h : Pl B (.slice o n c) n Ps vs w) (hi : i < n) : ∃ g v p m, o = some ⟨g, 0, none⟩ ∧ w.cell? ⟨g, i, none⟩ = some v ∧ vs[i]? = some v ∧ Ps[i]? = some p ∧ w.ownsRow B 3 1 v m (ik p).toList := by
  have hn := h.num
  obtain ⟨h0, h1⟩ := h.row
  have hl : vs.length = n := by simpa using h0
  have hiv : i < vs.length := by omega
  have hip : i < Ps.length := by omega
  have e1 := List.getElem?_eq_getElem hiv
  have e2 := List.getElem?_eq_getElem hip
  obtain ⟨m, hm⟩ := h.own i vs[i] Ps[i] e1 e2
  rcases h1 with ⟨-, h1⟩ | ⟨g, cap, cur, e, hB, hg, hnc, hcm, hcs, htk⟩
  · rw [h1] at hl; simp at hl; omega
  · injection e with f1 f2 f3
    refine ⟨g, vs[i], Ps[i], m, f1, ?_, e1, e2, hm⟩
    refine (cell_of_row _ _ _ _ _ _ hg).trans ?_
    rw [← Array.getElem?_toList]
    have : (cur.toList.take (n * 1))[i]? = vs[i]? := by rw [htk]
    rw [List.getElem?_take_of_lt (by omega)] at this
    rw [this, e1]
set_option maxRecDepth 100000 in
set_option maxHeartbeats 3200000 in
theorem groups7 (w : World) {F : Nat → List Nat} {N g : Nat} {V : Nat → Value} (h : Rws g N F V w) (hN : N ≤ 8192) (hN0 : 0 < N) (hF : ∀ v, v < N → ∀ x ∈ F v, x < N) (hl : ∀ v, (F v).length ≤ N) (h0 : ∀ a, N ≤ a → F a = []) (Q : Ending → World → Prop)
    (HT : ∀ (U : World) (o : Option Addr) (n c : Nat) (Ps : List (List Nat)) (vs : List Value) {v1 v2 v4 v5 v6 v7 v8 v9 v10 v11 v12 v13 v14 v15 v16 v17 v18 v19 v20 v21 v22 v23 v24 v25 v26 v27 v28 v29 v30 v31 v32 v33 v34 v35 v36 v37 v38 v39 v40 v41 v42 v43 v44 v45 v46 v47 v48 v49 v50 : Value}, Pl w.heap.size (.slice o n c) n (Ps.map srt) vs U → Scc F N Ps → 0 < n → n ≤ N → Below w.heap.size w U → Code.wp Try.prog (tlF Try.f35 7) (bodyPost Try.prog Try.f35 Q) ⟨#[.slice (some ⟨g, 0, none⟩) N N, v1, v2, .slice o n c, v4, v5, v6, v7, v8, v9, v10, v11, v12, v13, v14, v15, v16, v17, v18, v19, v20, v21, v22, v23, v24, v25, v26, v27, v28, v29, v30, v31, v32, v33, v34, v35, v36, v37, v38, v39, v40, v41, v42, v43, v44, v45, v46, v47, v48, v49, v50], []⟩ U) :
    Calls Try.prog 35 #[.slice (some ⟨g, 0, none⟩) N N] w Q := by
  have CC := comp_any w h hN hF hl h0
  replace HT := mkHid HT
  have HQ := mkHid (And.intro hN hN0)
  clear h hN hN0 hF hl h0
  go_enter Try.func35, Try.ntmps35
  go_wp2_with fail
  refine CC.mono ?_
  rintro e W1 ⟨o, n, c, Ps, vs, rfl, hp, hc, b1⟩
  have hnn := hp.num
  have HP := mkHid (And.intro hc (And.intro hnn b1.size))
  have H0 : Hid (Pl w.heap.size (.slice o n c) n (srs Ps 0) vs W1 ∧ Below w.heap.size w W1) := by rw [srs_zero]; exact ⟨hp, b1⟩
  clear CC hp hc b1 hnn
  go_wp2_with fail
  rename_i K2 hk2
  have HK2 := mkHid hk2
  clear hk2
  go_loopw [14] (fun iv wr => ∃ i : Nat, iv = .int .i64 (i : Int) ∧ i ≤ n ∧ Hid (Pl w.heap.size (.slice o n c) n (srs Ps i) vs wr ∧ Below w.heap.size w wr)) (fun iv _ => n - (intOf iv).toNat)
  case atStart => exact ⟨0, rfl, Nat.zero_le _, H0⟩
  case round =>
    obtain ⟨i, rfl, hi, HI⟩ := hrel
    by_cases hlt : i < n
    · have i1 := ltI hlt
      have i0 := geI i
      obtain ⟨hc, hnn, hsz⟩ := HP.out
      obtain ⟨hp, hb⟩ := HI.out
      obtain ⟨gb, v, p, m, rfl, cv, hv, hpi, ho⟩ := pl_own hp hlt
      have hp0 : Ps[i]? = some p := by
        obtain ⟨r, hr⟩ : ∃ r, Ps[i]? = some r := ⟨_, List.getElem?_eq_getElem (by omega)⟩
        rw [srs_at hr] at hpi
        rw [hr]
        exact hpi
      have hmem := List.mem_of_getElem? hp0
      have CS := sort_any wr ho (scc_pos hc p hmem) (by have := scc_plen hc p hmem; have := HQ.out.1; omega)
      have hnl : n ≤ N := by rw [hnn]; exact scc_len hc
      have hw1 := wrapI i (Nat.lt_of_lt_of_le hlt (Nat.le_trans hnl (Nat.le_trans HQ.out.1 (by decide))))
      have HS := mkHid (And.intro hp (And.intro hb (And.intro hv (And.intro hpi (And.intro hp0 (And.intro hlt ho))))))
      obtain ⟨ov, cv', rfl⟩ := own_size ho
      clear hc hnn hsz hp hb hv hpi ho hp0 hmem hnl hlt HI
      go_wp2_with fail
      refine CS.mono ?_
      rintro e w2 ⟨rfl, q1, q2⟩
      obtain ⟨hp, hb, hv, hpi, hp0, hlt, ho⟩ := HS.out
      have hn2 := hp.sorti hv hpi q1 q2
      rw [srs_step hp0] at hn2
      have b2 := hb.trans (q2.below hb.size fun k hk => (ho.lt k hk).1)
      have HN := mkHid (And.intro hn2 (And.intro b2 hlt))
      clear hp hb hv hpi hp0 hlt ho hn2 b2 q1 q2 CS
      go_wp2_with fail
      exact ⟨⟨i + 1, by first | rfl | (rw [hw1]; rfl), HN.out.2.2, HN.out.1, HN.out.2.1⟩, by first | exact measI _ _ HN.out.2.2 | (rw [hw1]; exact measI _ _ HN.out.2.2)⟩
    · have i1 := nltI hlt
      have e := eqI hi hlt
      obtain ⟨hp, hb⟩ := HI.out
      obtain ⟨hc, hnn, hsz⟩ := HP.out
      rw [e] at hp
      have hp2 : Pl w.heap.size (.slice o n c) n (Ps.map srt) vs wr := by
        rw [← srs_all, ← hnn]; exact hp
      have HZ := mkHid (And.intro hp2 (And.intro hc (And.intro (show 0 < n from by rw [hnn]; exact scc_len0 hc HQ.out.2) (And.intro (show n ≤ N from by rw [hnn]; exact scc_len hc) hb))))
      clear hc hnn hsz hp hb hp2 e hi hlt HI
      go_wp2_with fail
      obtain ⟨z1, z2, z3, z4, z5⟩ := HZ.out
      exact HK2.out _ _ (HT.out wr o n c Ps vs z1 z2 z3 z4 z5)
end Go.Proofs.Ytibhjkmbbfgnpaa

/- Graphs in groups: groups, whole. -/
namespace Go.Proofs.Ytibhjkmbbfgnpaa
open Go.RowKit GM Gl Gsx
set_option maxRecDepth 20000
/-- What groups answers. -/
def GrP (F : Nat → List Nat) (N : Nat) (w : World) (e : Ending) (w' : World) : Prop := ∃ k n, e = .returned (.slice (some ⟨k, 0, none⟩) n n) ∧ Below w.heap.size w w' ∧ ∃ Ps nb od, Pr (some ⟨k, 0, none⟩) n (od.map fun i => Ps.getD i []) w' ∧ Gn F N Ps nb ∧ Ps.length = n ∧ (∀ p ∈ Ps, p.Pairwise (· < ·)) ∧ (Ps.Pairwise fun p q => p.getD 0 0 ≤ q.getD 0 0) ∧ Top (btw F nb N n) n od
/-- The lists laid in order, the first i of them. -/
structure Lo (W : World) (gO n i : Nat) (od : List Nat) (vs : List Value) (X : World) : Prop where
  frm : Rm.Frm (fun k => k = gO) W X
  row : ∃ cur : Array Value, X.heap[gO]? = some (.cells cur 28 (0, 0)) ∧ cur.size = n ∧ ∀ j, j < i → cur[j]? = some (vs.getD (od.getD j 0) default)
theorem Lo.step {W X : World} {gO n i : Nat} {od : List Nat} {vs : List Value} (h : Lo W gO n i od vs X) (hi : i < n) : Lo W gO n (i + 1) od vs (X.setCell ⟨gO, i, none⟩ (vs.getD (od.getD i 0) default)) ∧ (∃ u, X.cell? ⟨gO, i, none⟩ = some u) ∧ X.frozen? ⟨gO, i, none⟩ = false := by
  obtain ⟨cur, h1, h2, h3⟩ := h.row
  refine ⟨⟨⟨h.frm.os, h.frm.tape, h.frm.output, by simpa using h.frm.size, fun k hk hx => (heap_setCell_other X ⟨gO, i, none⟩ k _ hx).trans (h.frm.blk k hk hx)⟩, _, heap_setCell_same _ _ _ _ _ _ h1, by simp [h2], fun j hj => ?_⟩, ⟨cur[i], (cell_of_row _ _ _ _ _ _ h1).trans (Array.getElem?_eq_getElem (by omega))⟩, frozen_of_row _ _ _ _ _ h1⟩
  rw [Array.getElem?_setIfInBounds]
  by_cases e : i = j
  · subst e
    rw [if_pos rfl, if_pos (by omega)]
  · rw [if_neg e]
    exact h3 j (by omega)
attribute [local go_sem ↓] toMkV
set_option maxRecDepth 100000 in
set_option maxHeartbeats 6400000 in
theorem gr7 (w U : World) {F : Nat → List Nat} {N g n c : Nat} {V : Nat → Value} {o : Option Addr} {Qs : List (List Nat)} {vs : List Value} (h : Rws g N F V w) (hN : N ≤ 1024) (hF : ∀ v, v < N → ∀ x ∈ F v, x < N) (hl : ∀ v, (F v).length ≤ N) (hp : Pl w.heap.size (.slice o n c) n Qs vs U) (hs : Scc F N Qs) (hr : ∀ p ∈ Qs, p.Pairwise (· < ·)) (h0 : 0 < n) (hn : n ≤ N) (hb : Below w.heap.size w U) {v1 v2 v4 v5 v6 v7 v8 v9 v10 v11 v12 v13 v14 v15 v16 v17 v18 v19 v20 v21 v22 v23 v24 v25 v26 v27 v28 v29 v30 v31 v32 v33 v34 v35 v36 v37 v38 v39 v40 v41 v42 v43 v44 v45 v46 v47 v48 v49 v50 : Value} :
    Code.wp Try.prog (tlF Try.f35 7) (bodyPost Try.prog Try.f35 (GrP F N w)) ⟨#[.slice (some ⟨g, 0, none⟩) N N, v1, v2, .slice o n c, v4, v5, v6, v7, v8, v9, v10, v11, v12, v13, v14, v15, v16, v17, v18, v19, v20, v21, v22, v23, v24, v25, v26, v27, v28, v29, v30, v31, v32, v33, v34, v35, v36, v37, v38, v39, v40, v41, v42, v43, v44, v45, v46, v47, v48, v49, v50], []⟩ U := by
  have CS := sortF_any U hp h0 (by omega) (scc_pos hs)
  have HQ := mkHid (And.intro h (And.intro hN (And.intro hF (And.intro hl (And.intro hs (And.intro hr (And.intro h0 (And.intro hn hb))))))))
  have HB := mkHid hp
  clear h hN hF hl hp hs hr h0 hn hb
  conv => arg 2; whnf
  go_wp2_with fail
  refine CS.mono ?_
  rintro e W3 ⟨rfl, Ps, vs3, hp3, pm, hd, fr⟩
  obtain ⟨h, hN, hF, hl, hs, hr, h0, hn, hb⟩ := HQ.out
  have hs3 := scc_perm hs pm
  have b3 : Below w.heap.size w W3 := hb.trans (fr.below hb.size fun k hk => (HB.out.row.lt k hk).1)
  have hn3 := hp3.num
  have C2 := numbersOf_any W3 (c := c) (pr_pl hp3) hs3.lt (scc_apart hs3) (by omega : N ≤ 100000) (by omega) (scc_plen hs3)
  have H3 := mkHid (And.intro hp3 (And.intro pm (And.intro hd (And.intro hs3 (And.intro b3 hn3)))))
  clear h hN hF hl hs hr h0 hn hb hs3 b3 hn3 hp3 pm hd fr CS
  go_wp2_with fail
  refine C2.mono ?_
  rintro e W4 ⟨nb, rfl, nm, rO, b4⟩
  obtain ⟨h, hN, hF, hl, hs, hr, h0, hn, hb⟩ := HQ.out
  obtain ⟨hp3, pm, hd, hs3, b3, hn3⟩ := H3.out
  have b04 := b3.trans (b4.mono b3.size)
  have gn : Gn F N Ps nb := ⟨hs3, by rw [← hn3]; exact nm⟩
  have C3 := between_any W4 (n := n) (h.below b04) nm.len rO (fun x hx => by rw [hn3]; exact gn.lt hx) hF hl (by omega) (by omega)
  have H4 := mkHid (And.intro gn (And.intro b4 b04))
  clear h hN hF hl hs hr h0 hn hb hs3 b3 hn3 hp3 pm hd C2 nm rO b4 b04 gn
  go_wp2_with fail
  refine C3.mono ?_
  rintro e W5 ⟨g5, V5, rfl, R5, b5, hg5⟩
  obtain ⟨h, hN, hF, hl, hs, hr, h0, hn, hb⟩ := HQ.out
  obtain ⟨gn, b4, b04⟩ := H4.out
  obtain ⟨W6, r6, R6, b6⟩ := run_mkV W5 n (by omega)
  obtain ⟨gO, hgO⟩ : ∃ k, W5.heap.size = k := ⟨_, rfl⟩
  rw [hgO] at r6
  have C4 := order_all n (by omega) (btw F nb N n) (fun a b hb => (mem_btw.1 hb).1) (fun a => by
    classical
    unfold btw
    exact List.nodup_range.filter _) (fun a ha => by
    rw [List.eq_nil_iff_forall_not_mem]
    intro b hb
    obtain ⟨-, x, y, x1, x2, x3, x4, -⟩ := mem_btw.1 hb
    have := gn.lt x1
    have := H3.out.2.2.2.2.2
    omega) g5 V5 W6 (R5.below b6)
  have H5 := mkHid (And.intro b5 (And.intro R6 b6))
  clear h hN hF hl hs hr h0 hn hb gn b4 b04 C3 R5 b5 hg5 R6 b6
  go_wp2_with fail
  refine C4.mono ?_
  rintro e W7 ⟨od, ov, rfl, ⟨M, kn⟩, ow, b7⟩
  obtain ⟨h, hN, hF, hl, hs, hr, h0, hn, hb⟩ := HQ.out
  obtain ⟨hp3, pm, hd, hs3, b3, hn3⟩ := H3.out
  obtain ⟨gn, b4, b04⟩ := H4.out
  obtain ⟨b5, R6, b6⟩ := H5.out
  rcases kn_cyc kn (fun v _ x hx => (mem_btw.1 hx).1) with ⟨q1, q2, -⟩ | ⟨-, x, -, k⟩
  case inr => exact absurd k (gn.nc hF)
  have b37 : Below W3.heap.size W3 W7 := b4.trans ((b5.trans ((b6.trans (b7.mono b6.size)).mono b5.size)).mono b4.size)
  have b07 := b3.trans (b37.mono b3.size)
  have lO : W3.heap.size ≤ gO := by rw [← hgO]; exact Nat.le_trans b4.size b5.size
  have l6 : gO < W6.heap.size := by rw [← hgO]; exact R6.lt
  obtain ⟨go, hil, hgo⟩ := own_il ow
  obtain ⟨o', c', e, h1⟩ := hil
  subst e
  rw [q1] at h1 hgo ⊢
  obtain ⟨off, rfl, hg1, hcc⟩ := h1 h0
  have hgo6 : W6.heap.size ≤ go := (hgo h0).1
  obtain ⟨gb, v0, p0, m0, rfl, -, -, -, -⟩ := pl_own hp3 h0
  have HL0 : Hid (Lo W7 gO n 0 od vs3 W7) := ⟨⟨rfl, rfl, rfl, Nat.le_refl _, fun _ _ _ => rfl⟩, by
    obtain ⟨cur, r1, r2, -⟩ := R6.row
    rw [hgO] at r1
    exact ⟨cur, (b7.block _ l6).trans r1, r2, fun j hj => by omega⟩⟩
  have HE := mkHid (And.intro b37 (And.intro b07 (And.intro lO (And.intro l6 (And.intro hg1 (And.intro hcc (And.intro hgo6 (And.intro q2 (And.intro h0 hn)))))))))
  clear h hN hF hl hs hr h0 hn hb hp3 pm hd hs3 b3 hn3 gn b4 b04 b5 R6 b6 kn ow b7 q1 q2 b37 b07 lO l6 hgo h1 hg1 hcc hgo6 C4 hgO
  dsimp only
  go_wp2_with fail
  go_loopw [37] (fun iv wr => ∃ i : Nat, iv = .int .i64 (i : Int) ∧ i ≤ n ∧ Hid (Lo W7 gO n i od vs3 wr)) (fun iv _ => n - (intOf iv).toNat)
  case atStart => exact ⟨0, rfl, Nat.zero_le _, HL0⟩
  case round =>
    obtain ⟨i, rfl, hi, HI⟩ := hrel
    by_cases hlt : i < n
    · have i1 := ltI hlt
      have i0 := geI i
      obtain ⟨b37, b07, lO, l6, hg1, hcc, hgo6, q2, h0, hn⟩ := HE.out
      obtain ⟨hp3, pm, hd, hs3, b3, hn3⟩ := H3.out
      have hLo := HI.out
      have hkn := top_lt q2 hlt
      obtain ⟨st, ⟨uo, cu⟩, fu⟩ := hLo.step hlt
      have ck0 := hcc i hlt
      obtain ⟨k, hk⟩ : ∃ k, od.getD i 0 = k := ⟨_, rfl⟩
      rw [hk] at ck0 hkn st
      have ck : wr.cell? ⟨go, off + i, none⟩ = some (.int .i64 (k : Int)) := (World.cell?_of_block (w := W7) (a := ⟨go, off + i, none⟩) (hLo.frm.blk go hg1 (by omega))).trans ck0
      obtain ⟨gb', v, p, m, e, cv0, hv, -, ho⟩ := pl_own hp3 hkn
      injection e with e
      injection e with e _ _
      subst e
      obtain ⟨ox, cx, rfl⟩ := own_size ho
      have lgb : gb < W3.heap.size := World.block_lt_of_cell? W3 _ cv0
      have cv : wr.cell? ⟨gb, k, none⟩ = some (.slice ox m cx) := (World.cell?_of_block (w := W7) (a := ⟨gb, k, none⟩) (hLo.frm.blk gb (Nat.lt_of_lt_of_le lgb b37.size) (by omega))).trans (cell_belowX b37 cv0)
      have ev : vs3.getD k default = .slice ox m cx := by simp [List.getD, hv]
      rw [ev] at st
      have k0 := geI k
      have k1 := ltI hkn
      have hw1 := wrapI i (Nat.lt_of_lt_of_le hlt (Nat.le_trans hn (Nat.le_trans HQ.out.2.1 (by decide))))
      have HN := mkHid (And.intro st hlt)
      clear b37 b07 lO l6 hg1 hcc hgo6 q2 h0 hn hp3 pm hd hs3 b3 hn3 hLo hkn st ck0 hk cv0 hv lgb ev hlt HI ho
      go_wp2_with fail
      exact ⟨⟨i + 1, by first | rfl | (rw [hw1]; rfl), HN.out.2, HN.out.1⟩, by first | exact measI _ _ HN.out.2 | (rw [hw1]; exact measI _ _ HN.out.2)⟩
    · have i1 := nltI hlt
      have e := eqI hi hlt
      have q := HI.out
      rw [e] at q
      have HZ := mkHid q
      clear q e hi hlt HI
      go_wp2_with fail
      go_ret
      obtain ⟨b37, b07, lO, l6, hg1, hcc, hgo6, q2, h0, hn⟩ := HE.out
      obtain ⟨hp3, pm, hd, hs3, b3, hn3⟩ := H3.out
      obtain ⟨gn, b4, b04⟩ := H4.out
      have hLo := HZ.out
      obtain ⟨cur, r1, r2, r3⟩ := hLo.row
      refine ⟨gO, n, rfl, b07.trans (hLo.frm.below b07.size fun k hk => by rw [hk]; exact Nat.le_trans b3.size lO), Ps, nb, od, ⟨by rw [List.length_map]; exact q2.len, fun a p hp => ?_⟩, gn, hn3.symm, fun p hpm => HQ.out.2.2.2.2.2.1 p (pm.mem_iff.1 hpm), hd, q2⟩
      rw [List.getElem?_map] at hp
      obtain ⟨k, hk1, hk2⟩ := Option.map_eq_some_iff.1 hp
      have han : a < n := by rw [← q2.len]; exact (List.getElem?_eq_some_iff.1 hk1).1
      have ek : od.getD a 0 = k := by simp [List.getD, hk1]
      have hkn : k < n := by rw [← ek]; exact top_lt q2 han
      obtain ⟨gb', v, p', m, e, cv0, hv, hpk, ho⟩ := pl_own hp3 hkn
      have ep : p' = p := by rw [← hk2]; simp [List.getD, hpk]
      subst ep
      obtain ⟨gp, hil, hgp⟩ := own_il ho
      have c1 := r3 a han
      rw [ek] at c1
      refine ⟨gO, v, gp, rfl, (cell_of_row _ _ _ _ _ _ r1).trans (by rw [c1]; simp [List.getD, hv]), ?_⟩
      have hil7 := il_bel hil b37
      by_cases z : 0 < p'.length
      · have lp := (ho.lt gp (hgp z).2).2
        exact hil7.keep hLo.frm.size (hLo.frm.blk gp (Nat.lt_of_lt_of_le lp b37.size) (by omega))
      · obtain ⟨o9, c9, e9, -⟩ := hil7
        exact ⟨o9, c9, e9, fun q => absurd q z⟩
theorem groups_any (w : World) {F : Nat → List Nat} {N g : Nat} {V : Nat → Value} (h : Rws g N F V w) (hN : N ≤ 1024) (hN0 : 0 < N) (hF : ∀ v, v < N → ∀ x ∈ F v, x < N) (hl : ∀ v, (F v).length ≤ N) (h0 : ∀ a, N ≤ a → F a = []) :
    Calls Try.prog 35 #[.slice (some ⟨g, 0, none⟩) N N] w (GrP F N w) :=
  groups7 w h (Nat.le_trans hN (by decide)) hN0 hF hl h0 (GrP F N w) (by
    intro U o n c Ps vs v1 v2 v4 v5 v6 v7 v8 v9 v10 v11 v12 v13 v14 v15 v16 v17 v18 v19 v20 v21 v22 v23 v24 v25 v26 v27 v28 v29 v30 v31 v32 v33 v34 v35 v36 v37 v38 v39 v40 v41 v42 v43 v44 v45 v46 v47 v48 v49 v50 hp hs hn0 hn hb
    exact gr7 w U h hN hF hl hp (scc_srt hs) (fun p hp => by
      obtain ⟨q, q1, rfl⟩ := List.mem_map.1 hp
      exact srt_rise (hs.pt q q1).1) hn0 hn hb)
end Go.Proofs.Ytibhjkmbbfgnpaa

/- Graphs in groups: groups, the least first. -/
namespace Go.Proofs.Ytibhjkmbbfgnpaa
open Go.RowKit GM Gl Gsx
set_option maxRecDepth 20000
/-- What groups answers. -/
def GrL (F : Nat → List Nat) (N : Nat) (w : World) (e : Ending) (w' : World) : Prop := ∃ k n, e = .returned (.slice (some ⟨k, 0, none⟩) n n) ∧ Below w.heap.size w w' ∧ ∃ Ps nb od, Pr (some ⟨k, 0, none⟩) n (od.map fun i => Ps.getD i []) w' ∧ Gn F N Ps nb ∧ Ps.length = n ∧ (∀ p ∈ Ps, p.Pairwise (· < ·)) ∧ (Ps.Pairwise fun p q => p.getD 0 0 ≤ q.getD 0 0) ∧ Top (btw F nb N n) n od ∧ Ls (btw F nb N n) n od
attribute [local go_sem ↓] toMkV
set_option maxRecDepth 100000 in
set_option maxHeartbeats 6400000 in
theorem gr7L (w U : World) {F : Nat → List Nat} {N g n c : Nat} {V : Nat → Value} {o : Option Addr} {Qs : List (List Nat)} {vs : List Value} (h : Rws g N F V w) (hN : N ≤ 1024) (hF : ∀ v, v < N → ∀ x ∈ F v, x < N) (hl : ∀ v, (F v).length ≤ N) (hp : Pl w.heap.size (.slice o n c) n Qs vs U) (hs : Scc F N Qs) (hr : ∀ p ∈ Qs, p.Pairwise (· < ·)) (h0 : 0 < n) (hn : n ≤ N) (hb : Below w.heap.size w U) {v1 v2 v4 v5 v6 v7 v8 v9 v10 v11 v12 v13 v14 v15 v16 v17 v18 v19 v20 v21 v22 v23 v24 v25 v26 v27 v28 v29 v30 v31 v32 v33 v34 v35 v36 v37 v38 v39 v40 v41 v42 v43 v44 v45 v46 v47 v48 v49 v50 : Value} :
    Code.wp Try.prog (tlF Try.f35 7) (bodyPost Try.prog Try.f35 (GrL F N w)) ⟨#[.slice (some ⟨g, 0, none⟩) N N, v1, v2, .slice o n c, v4, v5, v6, v7, v8, v9, v10, v11, v12, v13, v14, v15, v16, v17, v18, v19, v20, v21, v22, v23, v24, v25, v26, v27, v28, v29, v30, v31, v32, v33, v34, v35, v36, v37, v38, v39, v40, v41, v42, v43, v44, v45, v46, v47, v48, v49, v50], []⟩ U := by
  have CS := sortF_any U hp h0 (by omega) (scc_pos hs)
  have HQ := mkHid (And.intro h (And.intro hN (And.intro hF (And.intro hl (And.intro hs (And.intro hr (And.intro h0 (And.intro hn hb))))))))
  have HB := mkHid hp
  clear h hN hF hl hp hs hr h0 hn hb
  conv => arg 2; whnf
  go_wp2_with fail
  refine CS.mono ?_
  rintro e W3 ⟨rfl, Ps, vs3, hp3, pm, hd, fr⟩
  obtain ⟨h, hN, hF, hl, hs, hr, h0, hn, hb⟩ := HQ.out
  have hs3 := scc_perm hs pm
  have b3 : Below w.heap.size w W3 := hb.trans (fr.below hb.size fun k hk => (HB.out.row.lt k hk).1)
  have hn3 := hp3.num
  have C2 := numbersOf_any W3 (c := c) (pr_pl hp3) hs3.lt (scc_apart hs3) (by omega : N ≤ 100000) (by omega) (scc_plen hs3)
  have H3 := mkHid (And.intro hp3 (And.intro pm (And.intro hd (And.intro hs3 (And.intro b3 hn3)))))
  clear h hN hF hl hs hr h0 hn hb hs3 b3 hn3 hp3 pm hd fr CS
  go_wp2_with fail
  refine C2.mono ?_
  rintro e W4 ⟨nb, rfl, nm, rO, b4⟩
  obtain ⟨h, hN, hF, hl, hs, hr, h0, hn, hb⟩ := HQ.out
  obtain ⟨hp3, pm, hd, hs3, b3, hn3⟩ := H3.out
  have b04 := b3.trans (b4.mono b3.size)
  have gn : Gn F N Ps nb := ⟨hs3, by rw [← hn3]; exact nm⟩
  have C3 := between_any W4 (n := n) (h.below b04) nm.len rO (fun x hx => by rw [hn3]; exact gn.lt hx) hF hl (by omega) (by omega)
  have H4 := mkHid (And.intro gn (And.intro b4 b04))
  clear h hN hF hl hs hr h0 hn hb hs3 b3 hn3 hp3 pm hd C2 nm rO b4 b04 gn
  go_wp2_with fail
  refine C3.mono ?_
  rintro e W5 ⟨g5, V5, rfl, R5, b5, hg5⟩
  obtain ⟨h, hN, hF, hl, hs, hr, h0, hn, hb⟩ := HQ.out
  obtain ⟨gn, b4, b04⟩ := H4.out
  obtain ⟨W6, r6, R6, b6⟩ := run_mkV W5 n (by omega)
  obtain ⟨gO, hgO⟩ : ∃ k, W5.heap.size = k := ⟨_, rfl⟩
  rw [hgO] at r6
  have C4 := order_lst n (by omega) (btw F nb N n) (fun a b hb => (mem_btw.1 hb).1) (fun a => by
    classical
    unfold btw
    exact List.nodup_range.filter _) (fun a ha => by
    rw [List.eq_nil_iff_forall_not_mem]
    intro b hb
    obtain ⟨-, x, y, x1, x2, x3, x4, -⟩ := mem_btw.1 hb
    have := gn.lt x1
    have := H3.out.2.2.2.2.2
    omega) g5 V5 W6 (R5.below b6)
  have H5 := mkHid (And.intro b5 (And.intro R6 b6))
  clear h hN hF hl hs hr h0 hn hb gn b4 b04 C3 R5 b5 hg5 R6 b6
  go_wp2_with fail
  refine C4.mono ?_
  rintro e W7 ⟨od, ov, rfl, ⟨M, kn⟩, ls, ow, b7⟩
  have HLS := mkHid ls
  clear ls
  obtain ⟨h, hN, hF, hl, hs, hr, h0, hn, hb⟩ := HQ.out
  obtain ⟨hp3, pm, hd, hs3, b3, hn3⟩ := H3.out
  obtain ⟨gn, b4, b04⟩ := H4.out
  obtain ⟨b5, R6, b6⟩ := H5.out
  rcases kn_cyc kn (fun v _ x hx => (mem_btw.1 hx).1) with ⟨q1, q2, -⟩ | ⟨-, x, -, k⟩
  case inr => exact absurd k (gn.nc hF)
  have b37 : Below W3.heap.size W3 W7 := b4.trans ((b5.trans ((b6.trans (b7.mono b6.size)).mono b5.size)).mono b4.size)
  have b07 := b3.trans (b37.mono b3.size)
  have lO : W3.heap.size ≤ gO := by rw [← hgO]; exact Nat.le_trans b4.size b5.size
  have l6 : gO < W6.heap.size := by rw [← hgO]; exact R6.lt
  obtain ⟨go, hil, hgo⟩ := own_il ow
  obtain ⟨o', c', e, h1⟩ := hil
  subst e
  rw [q1] at h1 hgo ⊢
  obtain ⟨off, rfl, hg1, hcc⟩ := h1 h0
  have hgo6 : W6.heap.size ≤ go := (hgo h0).1
  obtain ⟨gb, v0, p0, m0, rfl, -, -, -, -⟩ := pl_own hp3 h0
  have HL0 : Hid (Lo W7 gO n 0 od vs3 W7) := ⟨⟨rfl, rfl, rfl, Nat.le_refl _, fun _ _ _ => rfl⟩, by
    obtain ⟨cur, r1, r2, -⟩ := R6.row
    rw [hgO] at r1
    exact ⟨cur, (b7.block _ l6).trans r1, r2, fun j hj => by omega⟩⟩
  have HE := mkHid (And.intro b37 (And.intro b07 (And.intro lO (And.intro l6 (And.intro hg1 (And.intro hcc (And.intro hgo6 (And.intro q2 (And.intro h0 hn)))))))))
  clear h hN hF hl hs hr h0 hn hb hp3 pm hd hs3 b3 hn3 gn b4 b04 b5 R6 b6 kn ow b7 q1 q2 b37 b07 lO l6 hgo h1 hg1 hcc hgo6 C4 hgO
  dsimp only
  go_wp2_with fail
  go_loopw [37] (fun iv wr => ∃ i : Nat, iv = .int .i64 (i : Int) ∧ i ≤ n ∧ Hid (Lo W7 gO n i od vs3 wr)) (fun iv _ => n - (intOf iv).toNat)
  case atStart => exact ⟨0, rfl, Nat.zero_le _, HL0⟩
  case round =>
    obtain ⟨i, rfl, hi, HI⟩ := hrel
    by_cases hlt : i < n
    · have i1 := ltI hlt
      have i0 := geI i
      obtain ⟨b37, b07, lO, l6, hg1, hcc, hgo6, q2, h0, hn⟩ := HE.out
      obtain ⟨hp3, pm, hd, hs3, b3, hn3⟩ := H3.out
      have hLo := HI.out
      have hkn := top_lt q2 hlt
      obtain ⟨st, ⟨uo, cu⟩, fu⟩ := hLo.step hlt
      have ck0 := hcc i hlt
      obtain ⟨k, hk⟩ : ∃ k, od.getD i 0 = k := ⟨_, rfl⟩
      rw [hk] at ck0 hkn st
      have ck : wr.cell? ⟨go, off + i, none⟩ = some (.int .i64 (k : Int)) := (World.cell?_of_block (w := W7) (a := ⟨go, off + i, none⟩) (hLo.frm.blk go hg1 (by omega))).trans ck0
      obtain ⟨gb', v, p, m, e, cv0, hv, -, ho⟩ := pl_own hp3 hkn
      injection e with e
      injection e with e _ _
      subst e
      obtain ⟨ox, cx, rfl⟩ := own_size ho
      have lgb : gb < W3.heap.size := World.block_lt_of_cell? W3 _ cv0
      have cv : wr.cell? ⟨gb, k, none⟩ = some (.slice ox m cx) := (World.cell?_of_block (w := W7) (a := ⟨gb, k, none⟩) (hLo.frm.blk gb (Nat.lt_of_lt_of_le lgb b37.size) (by omega))).trans (cell_belowX b37 cv0)
      have ev : vs3.getD k default = .slice ox m cx := by simp [List.getD, hv]
      rw [ev] at st
      have k0 := geI k
      have k1 := ltI hkn
      have hw1 := wrapI i (Nat.lt_of_lt_of_le hlt (Nat.le_trans hn (Nat.le_trans HQ.out.2.1 (by decide))))
      have HN := mkHid (And.intro st hlt)
      clear b37 b07 lO l6 hg1 hcc hgo6 q2 h0 hn hp3 pm hd hs3 b3 hn3 hLo hkn st ck0 hk cv0 hv lgb ev hlt HI ho
      go_wp2_with fail
      exact ⟨⟨i + 1, by first | rfl | (rw [hw1]; rfl), HN.out.2, HN.out.1⟩, by first | exact measI _ _ HN.out.2 | (rw [hw1]; exact measI _ _ HN.out.2)⟩
    · have i1 := nltI hlt
      have e := eqI hi hlt
      have q := HI.out
      rw [e] at q
      have HZ := mkHid q
      clear q e hi hlt HI
      go_wp2_with fail
      go_ret
      obtain ⟨b37, b07, lO, l6, hg1, hcc, hgo6, q2, h0, hn⟩ := HE.out
      obtain ⟨hp3, pm, hd, hs3, b3, hn3⟩ := H3.out
      obtain ⟨gn, b4, b04⟩ := H4.out
      have hLo := HZ.out
      obtain ⟨cur, r1, r2, r3⟩ := hLo.row
      refine ⟨gO, n, rfl, b07.trans (hLo.frm.below b07.size fun k hk => by rw [hk]; exact Nat.le_trans b3.size lO), Ps, nb, od, ⟨by rw [List.length_map]; exact q2.len, fun a p hp => ?_⟩, gn, hn3.symm, fun p hpm => HQ.out.2.2.2.2.2.1 p (pm.mem_iff.1 hpm), hd, q2, HLS.out⟩
      rw [List.getElem?_map] at hp
      obtain ⟨k, hk1, hk2⟩ := Option.map_eq_some_iff.1 hp
      have han : a < n := by rw [← q2.len]; exact (List.getElem?_eq_some_iff.1 hk1).1
      have ek : od.getD a 0 = k := by simp [List.getD, hk1]
      have hkn : k < n := by rw [← ek]; exact top_lt q2 han
      obtain ⟨gb', v, p', m, e, cv0, hv, hpk, ho⟩ := pl_own hp3 hkn
      have ep : p' = p := by rw [← hk2]; simp [List.getD, hpk]
      subst ep
      obtain ⟨gp, hil, hgp⟩ := own_il ho
      have c1 := r3 a han
      rw [ek] at c1
      refine ⟨gO, v, gp, rfl, (cell_of_row _ _ _ _ _ _ r1).trans (by rw [c1]; simp [List.getD, hv]), ?_⟩
      have hil7 := il_bel hil b37
      by_cases z : 0 < p'.length
      · have lp := (ho.lt gp (hgp z).2).2
        exact hil7.keep hLo.frm.size (hLo.frm.blk gp (Nat.lt_of_lt_of_le lp b37.size) (by omega))
      · obtain ⟨o9, c9, e9, -⟩ := hil7
        exact ⟨o9, c9, e9, fun q => absurd q z⟩
theorem groups_lst (w : World) {F : Nat → List Nat} {N g : Nat} {V : Nat → Value} (h : Rws g N F V w) (hN : N ≤ 1024) (hN0 : 0 < N) (hF : ∀ v, v < N → ∀ x ∈ F v, x < N) (hl : ∀ v, (F v).length ≤ N) (h0 : ∀ a, N ≤ a → F a = []) :
    Calls Try.prog 35 #[.slice (some ⟨g, 0, none⟩) N N] w (GrL F N w) :=
  groups7 w h (Nat.le_trans hN (by decide)) hN0 hF hl h0 (GrL F N w) (by
    intro U o n c Ps vs v1 v2 v4 v5 v6 v7 v8 v9 v10 v11 v12 v13 v14 v15 v16 v17 v18 v19 v20 v21 v22 v23 v24 v25 v26 v27 v28 v29 v30 v31 v32 v33 v34 v35 v36 v37 v38 v39 v40 v41 v42 v43 v44 v45 v46 v47 v48 v49 v50 hp hs hn0 hn hb
    exact gr7L w U h hN hF hl hp (scc_srt hs) (fun p hp => by
      obtain ⟨q, q1, rfl⟩ := List.mem_map.1 hp
      exact srt_rise (hs.pt q q1).1) hn0 hn hb)
end Go.Proofs.Ytibhjkmbbfgnpaa

/- Graphs in groups: Condense. -/
namespace Go.Proofs.Ytibhjkmbbfgnpaa
open Go.RowKit GM Gl Gsx
set_option maxRecDepth 20000
theorem results_Gtt {fn : Func} {p u t : Tmp} (h : fn.results = #[.cell p 24, .tmp u, .tmp t]) (tmps : Array Value) (w : World) (g : Nat) (a b : Value)
    (hp : tmps.getD p undef = .pointer (some ⟨g, 0, none⟩)) (hg : w.heap[g]? = some (.cells #[a, b] 24 (0, 0))) :
    (results fn tmps).run Try.prog w = .ok (.tuple #[.agg #[a, b], tmps.getD u undef, tmps.getD t undef]) w := by
  have hp' : tmps[p]?.getD undef = .pointer (some ⟨g, 0, none⟩) := by simpa using hp
  simp [results, h, hp', asAddr, run_ldG w g a b hg]
section
variable {F : Nat → List Nat} {N n : Nat} {Ps : List (List Nat)} {od nb : List Nat} {L : Nat → List Nat}
theorem ord_perm (ht : Top L n od) (hl : Ps.length = n) : (od.map fun i => Ps.getD i []).Perm Ps := by
  have p : od.Perm (List.range n) := (List.perm_ext_iff_of_nodup ht.nd List.nodup_range).2 fun v => by
    rw [List.mem_range]
    exact ⟨ht.lt v, ht.all v⟩
  have q := p.map fun i => Ps.getD i []
  have e : ((List.range n).map fun i => Ps.getD i []) = Ps := by
    apply List.ext_getElem (by simp [hl])
    intro k h1 h2
    simp [List.getD, h2]
  rwa [e] at q
theorem btw_small (hn : n ≤ 1024) : (edg (btw F nb N n) n).length ≤ 1073741824 := by
  have h1 : ∀ a, (btw F nb N n a).length ≤ n := fun a => by
    classical
    unfold btw
    have := List.length_filter_le (fun j => decide (Gbw F nb N 0 a j)) (List.range n)
    simpa using this
  have h2 := edg_len (btw F nb N n) n h1 n
  have h3 : n * n ≤ 1024 * 1024 := Nat.mul_le_mul hn hn
  omega
end
/-- What Condense answers. -/
def CdP (F : Nat → List Nat) (N : Nat) (w : World) (e : Ending) (w' : World) : Prop := ∃ (n k : Nat) (u : Value) (nb : List Nat) (Rs : List (List Nat)), e = .returned (.tuple #[grV (n : Int) u, .slice (some ⟨k, 0, none⟩) N N, .int .i64 0]) ∧ Below w.heap.size w w' ∧ El u (zE (edg (btw F nb N n) n)) w' ∧ w'.heap[k]? = some (.cells (ik nb) 3 (0, 0)) ∧ Gn F N Rs nb ∧ Rs.length = n ∧ n ≤ N ∧ w.heap.size ≤ k ∧
  ∃ Ps nb0 od, Rs = (od.map fun i => Ps.getD i []) ∧ Gn F N Ps nb0 ∧ Ps.length = n ∧ (∀ p ∈ Ps, p.Pairwise (· < ·)) ∧ (Ps.Pairwise fun p q => p.getD 0 0 ≤ q.getD 0 0) ∧ Top (btw F nb0 N n) n od
set_option maxRecDepth 100000 in
set_option maxHeartbeats 3200000 in
theorem condense_any (N : Nat) (hN : N ≤ 1024) (hN0 : 0 < N) (E : List (Nat × Nat)) (hE : ∀ e ∈ E, e.1 < N ∧ e.2 < N) (hl : E.length ≤ 1000000) (hc : (chk (N : Int) (zE E)).1 = 0) (v : Value) (w : World) (hv : El v (zE E) w) :
    Calls Try.prog 16 #[grV (N : Int) v] w (CdP (ndF N E) N w) := by
  obtain ⟨kG, hkG⟩ : ∃ k, w.heap.size = k := ⟨_, rfl⟩
  obtain ⟨W0, hW0⟩ : ∃ W0, (w.alloc (.cells #[.int .i64 (N : Int), v] 24)).alloc (.cells #[.int .i64 0, .slice none 0 0] 24) = W0 := ⟨_, rfl⟩
  have b0 : Below w.heap.size w W0 := by rw [← hW0]; exact ((Below.refl _ w).alloc (Nat.le_refl _) _).alloc (by simp) _
  have r0 : W0.heap[kG]? = some (.cells #[.int .i64 (N : Int), v] 24 (0, 0)) := by rw [← hW0, ← hkG]; exact (heap_alloc_old _ _ (h := by simp)).trans (heap_alloc_new _ _)
  have r1 : W0.heap[kG + 1]? = some (.cells #[.int .i64 0, .slice none 0 0] 24 (0, 0)) := by
    rw [← hW0, ← hkG]
    have := heap_alloc_new (w.alloc (.cells #[.int .i64 (N : Int), v] 24)) (.cells #[.int .i64 0, .slice none 0 0] 24)
    have e : (w.alloc (.cells #[.int .i64 (N : Int), v] 24)).heap.size = w.heap.size + 1 := by simp
    rwa [e] at this
  have HC : Hid (Calls Try.prog 26 #[grV (N : Int) v, .slice none 0 0] W0 fun e w' => e = .returned (.int .i64 0) ∧ Below W0.heap.size W0 w') := by
    have := checkWith_any (N : Int) (zE E) v W0 (hv.below b0)
    rw [hc] at this
    exact this
  have HN : Hid (∀ Y, Below w.heap.size w Y → Calls Try.prog 30 #[grV (N : Int) v] Y fun e w' => ∃ g' V', e = .returned (.slice (some ⟨g', 0, none⟩) N N) ∧ Rws g' N (ndF N E) V' w' ∧ Below Y.heap.size Y w') := fun Y bY => needsOf_any N (by omega) E hE (by omega) v Y (hv.below bY)
  have HS := mkHid (And.intro b0 (And.intro r0 (And.intro r1 (And.intro hN (And.intro hN0 (And.intro hE hkG))))))
  have l0 : W0.cell? ⟨kG, 0, none⟩ = some (.int .i64 (N : Int)) := (cell_of_row _ _ _ _ _ _ r0).trans rfl
  have l1 : W0.cell? ⟨kG, 1, none⟩ = some v := (cell_of_row _ _ _ _ _ _ r0).trans rfl
  unfold grV at HC HN ⊢
  clear b0 r0 r1 hv hN hN0 hE hl hc
  go_enter Try.func16, Try.ntmps16
  go_wp2_with fail
  try rw [hkG]
  try rw [hW0]
  with_reducible refine Calls.mono HC.out ?_
  rintro en W1 ⟨rfl, b1⟩
  have b01 := HS.out.1.trans (b1.mono HS.out.1.size)
  have HB1 := mkHid (And.intro b01 b1)
  have l2 := cell_belowX b1 l0
  have l3 := cell_belowX b1 l1
  have HC2 := mkHid (HN.out W1 b01)
  clear b1 b01 l0 l1 hW0 HC
  go_wp2_with fail
  with_reducible refine Calls.mono HC2.out ?_
  rintro en W2 ⟨g, V, rfl, hrw, b2⟩
  have CG := groups_any W2 hrw HS.out.2.2.2.1 HS.out.2.2.2.2.1 (fun v _ x hx => ndF_lt v x hx) ndF_len (ndF_out HS.out.2.2.2.2.2.1)
  have l4 := cell_belowX b2 l2
  have l5 := cell_belowX b2 l3
  have HB2 := mkHid (And.intro hrw b2)
  clear hrw b2 l2 l3 HC2 HN
  go_wp2_with fail
  refine CG.mono ?_
  rintro e W3 ⟨k3, n, rfl, b3, Ps, nb0, od, pr, gn0, hpl, hri, hhd, ht⟩
  have l6 := cell_belowX b3 l4
  have l7 := cell_belowX b3 l5
  have hsR := scc_perm gn0.scc (ord_perm ht hpl)
  have hnN : n ≤ N := by rw [← hpl]; exact scc_len gn0.scc
  have C4 := numbersOf_any W3 (c := n) pr hsR.lt (scc_apart hsR) (by have := HS.out.2.2.2.1; omega : N ≤ 100000) (by have := HS.out.2.2.2.1; omega) (scc_plen hsR)
  have HB3 := mkHid (And.intro b3 (And.intro gn0 (And.intro hpl (And.intro hri (And.intro hhd (And.intro ht (And.intro hsR hnN)))))))
  clear b3 pr gn0 hpl hri hhd ht hsR hnN l4 l5 CG
  go_wp2_with fail
  refine C4.mono ?_
  rintro e W4 ⟨nb, rfl, nm, rO, b4⟩
  obtain ⟨b3, gn0, hpl, hri, hhd, ht, hsR, hnN⟩ := HB3.out
  obtain ⟨hrw, b2⟩ := HB2.out
  obtain ⟨b01, b1⟩ := HB1.out
  have hRl : (od.map fun i => Ps.getD i []).length = n := by rw [List.length_map]; exact ht.len
  have gn2 : Gn (ndF N E) N (od.map fun i => Ps.getD i []) nb := ⟨hsR, by rw [hRl]; exact nm⟩
  have b24 := b3.trans (b4.mono b3.size)
  have b02 := b01.trans (b2.mono b01.size)
  have b04 := b02.trans (b24.mono b02.size)
  have C5 := between_any W4 (n := n) (hrw.below b24) nm.len rO (fun x hx => by have := gn2.lt hx; rw [hRl] at this; exact this) (fun v _ x hx => ndF_lt v x hx) ndF_len (by have := HS.out.2.2.2.1; omega) (by have := HS.out.2.2.2.1; omega)
  have r1 := HS.out.2.2.1
  have r14 : W4.heap[kG + 1]? = some (.cells #[.int .i64 0, .slice none 0 0] 24 (0, 0)) := by
    have k1 := (Array.getElem?_eq_some_iff.1 r1).1
    have e1 := (b1.block _ k1).trans r1
    have e2 := (b2.block _ (Array.getElem?_eq_some_iff.1 e1).1).trans e1
    exact (b24.block _ (Array.getElem?_eq_some_iff.1 e2).1).trans e2
  have lR : kG + 1 < W3.heap.size := by
    have k1 := (Array.getElem?_eq_some_iff.1 r1).1
    exact Nat.lt_of_lt_of_le k1 (Nat.le_trans b1.size (Nat.le_trans b2.size b3.size))
  have l03 : w.heap.size ≤ W3.heap.size := Nat.le_trans b02.size b3.size
  have HB4 := mkHid (And.intro gn2 (And.intro b04 (And.intro rO (And.intro r14 (And.intro lR (And.intro l03 (And.intro b4.size hRl)))))))
  clear b3 gn0 hpl hri hhd ht hsR hnN hrw b2 b01 b1 hRl gn2 b24 b02 b04 nm rO b4 r1 r14 lR l03 C4 l6 l7
  go_wp2_with fail
  refine C5.mono ?_
  rintro e W5 ⟨g5, V5, rfl, R5, b5, -⟩
  have C6 := graph_any n (by have := HB3.out.2.2.2.2.2.2.2; have := HS.out.2.2.2.1; omega) (btw (ndF N E) nb N n) (btw_small (Nat.le_trans HB3.out.2.2.2.2.2.2.2 HS.out.2.2.2.1)) g5 V5 W5 R5
  have HB5 := mkHid b5
  clear R5 b5 C5
  go_wp2_with fail
  refine C6.mono ?_
  rintro e W6 ⟨u, rfl, eu, b6, fu⟩
  obtain ⟨ou, cu, hu, -, -⟩ := eu.form
  obtain ⟨mu, hmu⟩ : ∃ k, (zE (edg (btw (ndF N E) nb N n) n)).length = k := ⟨_, rfl⟩
  rw [hmu] at hu
  subst hu
  obtain ⟨gn2, b04, rO, r14, lR, l03, l34, hRl⟩ := HB4.out
  have b46 := HB5.out.trans (b6.mono HB5.out.size)
  have r16 := (b46.block _ (Array.getElem?_eq_some_iff.1 r14).1).trans r14
  have rO6 := (b46.block _ (Array.getElem?_eq_some_iff.1 rO).1).trans rO
  have b06 := b04.trans (b46.mono b04.size)
  have z0 : W6.cell? ⟨kG + 1, 0, none⟩ = some (.int .i64 0) := (cell_of_row _ _ _ _ _ _ r16).trans rfl
  have z1 : W6.cell? ⟨kG + 1, 1, none⟩ = some (.slice none 0 0) := (cell_of_row _ _ _ _ _ _ r16).trans rfl
  have f0 := frozen_of_row W6 (kG + 1) 0 _ _ r16
  have f1 := frozen_of_row W6 (kG + 1) 1 _ _ r16
  have HE := mkHid (And.intro eu (And.intro b06 (And.intro r16 (And.intro rO6 (And.intro gn2 (And.intro hRl (And.intro l03 (And.intro lR (fun q hq => by
    have h1 := fu q hq
    have h2 := HB5.out.size
    omega : ∀ q, (Value.slice ou mu cu).ownBlock = some q → kG + 1 < q)))))))))
  unfold grV
  clear eu b06 fu r16 rO6 hmu gn2 b04 rO r14 lR l03 l34 hRl b46 b6 C6
  go_wp2_with fail
  obtain ⟨eu, b06, r16, rO6, gn2, hRl, l03, lR, fu⟩ := HE.out
  obtain ⟨-, gn0, hpl, hri, hhd, ht, -, hnN⟩ := HB3.out
  refine bodyPost_ret (results_Gtt rfl _ _ (kG + 1) (.int .i64 (n : Int)) (.slice ou mu cu) rfl (set2G _ _ r16)) rfl ⟨n, W3.heap.size, .slice ou mu cu, nb, _, rfl, below_set2 _ _ (by omega) b06, eu.keep (by simp [World.setCell]) (fun q hq _ => set2_other _ _ q (by have := fu q hq; omega)), (set2_other _ _ _ (by omega)).trans rO6, gn2, hRl, hnN, l03, Ps, nb0, od, rfl, gn0, hpl, hri, hhd, ht⟩
end Go.Proofs.Ytibhjkmbbfgnpaa

/- Graphs in groups: Condense, the least first. -/
namespace Go.Proofs.Ytibhjkmbbfgnpaa
open Go.RowKit GM Gl Gsx
set_option maxRecDepth 20000
/-- What Condense answers. -/
def CdL (F : Nat → List Nat) (N : Nat) (w : World) (e : Ending) (w' : World) : Prop := ∃ (n k : Nat) (u : Value) (nb : List Nat) (Rs : List (List Nat)), e = .returned (.tuple #[grV (n : Int) u, .slice (some ⟨k, 0, none⟩) N N, .int .i64 0]) ∧ Below w.heap.size w w' ∧ El u (zE (edg (btw F nb N n) n)) w' ∧ w'.heap[k]? = some (.cells (ik nb) 3 (0, 0)) ∧ Gn F N Rs nb ∧ Rs.length = n ∧ n ≤ N ∧ w.heap.size ≤ k ∧
  ∃ Ps nb0 od, Rs = (od.map fun i => Ps.getD i []) ∧ Gn F N Ps nb0 ∧ Ps.length = n ∧ (∀ p ∈ Ps, p.Pairwise (· < ·)) ∧ (Ps.Pairwise fun p q => p.getD 0 0 ≤ q.getD 0 0) ∧ Top (btw F nb0 N n) n od ∧ Ls (btw F nb0 N n) n od
set_option maxRecDepth 100000 in
set_option maxHeartbeats 3200000 in
theorem condense_lst (N : Nat) (hN : N ≤ 1024) (hN0 : 0 < N) (E : List (Nat × Nat)) (hE : ∀ e ∈ E, e.1 < N ∧ e.2 < N) (hl : E.length ≤ 1000000) (hc : (chk (N : Int) (zE E)).1 = 0) (v : Value) (w : World) (hv : El v (zE E) w) :
    Calls Try.prog 16 #[grV (N : Int) v] w (CdL (ndF N E) N w) := by
  obtain ⟨kG, hkG⟩ : ∃ k, w.heap.size = k := ⟨_, rfl⟩
  obtain ⟨W0, hW0⟩ : ∃ W0, (w.alloc (.cells #[.int .i64 (N : Int), v] 24)).alloc (.cells #[.int .i64 0, .slice none 0 0] 24) = W0 := ⟨_, rfl⟩
  have b0 : Below w.heap.size w W0 := by rw [← hW0]; exact ((Below.refl _ w).alloc (Nat.le_refl _) _).alloc (by simp) _
  have r0 : W0.heap[kG]? = some (.cells #[.int .i64 (N : Int), v] 24 (0, 0)) := by rw [← hW0, ← hkG]; exact (heap_alloc_old _ _ (h := by simp)).trans (heap_alloc_new _ _)
  have r1 : W0.heap[kG + 1]? = some (.cells #[.int .i64 0, .slice none 0 0] 24 (0, 0)) := by
    rw [← hW0, ← hkG]
    have := heap_alloc_new (w.alloc (.cells #[.int .i64 (N : Int), v] 24)) (.cells #[.int .i64 0, .slice none 0 0] 24)
    have e : (w.alloc (.cells #[.int .i64 (N : Int), v] 24)).heap.size = w.heap.size + 1 := by simp
    rwa [e] at this
  have HC : Hid (Calls Try.prog 26 #[grV (N : Int) v, .slice none 0 0] W0 fun e w' => e = .returned (.int .i64 0) ∧ Below W0.heap.size W0 w') := by
    have := checkWith_any (N : Int) (zE E) v W0 (hv.below b0)
    rw [hc] at this
    exact this
  have HN : Hid (∀ Y, Below w.heap.size w Y → Calls Try.prog 30 #[grV (N : Int) v] Y fun e w' => ∃ g' V', e = .returned (.slice (some ⟨g', 0, none⟩) N N) ∧ Rws g' N (ndF N E) V' w' ∧ Below Y.heap.size Y w') := fun Y bY => needsOf_any N (by omega) E hE (by omega) v Y (hv.below bY)
  have HS := mkHid (And.intro b0 (And.intro r0 (And.intro r1 (And.intro hN (And.intro hN0 (And.intro hE hkG))))))
  have l0 : W0.cell? ⟨kG, 0, none⟩ = some (.int .i64 (N : Int)) := (cell_of_row _ _ _ _ _ _ r0).trans rfl
  have l1 : W0.cell? ⟨kG, 1, none⟩ = some v := (cell_of_row _ _ _ _ _ _ r0).trans rfl
  unfold grV at HC HN ⊢
  clear b0 r0 r1 hv hN hN0 hE hl hc
  go_enter Try.func16, Try.ntmps16
  go_wp2_with fail
  try rw [hkG]
  try rw [hW0]
  with_reducible refine Calls.mono HC.out ?_
  rintro en W1 ⟨rfl, b1⟩
  have b01 := HS.out.1.trans (b1.mono HS.out.1.size)
  have HB1 := mkHid (And.intro b01 b1)
  have l2 := cell_belowX b1 l0
  have l3 := cell_belowX b1 l1
  have HC2 := mkHid (HN.out W1 b01)
  clear b1 b01 l0 l1 hW0 HC
  go_wp2_with fail
  with_reducible refine Calls.mono HC2.out ?_
  rintro en W2 ⟨g, V, rfl, hrw, b2⟩
  have CG := groups_lst W2 hrw HS.out.2.2.2.1 HS.out.2.2.2.2.1 (fun v _ x hx => ndF_lt v x hx) ndF_len (ndF_out HS.out.2.2.2.2.2.1)
  have l4 := cell_belowX b2 l2
  have l5 := cell_belowX b2 l3
  have HB2 := mkHid (And.intro hrw b2)
  clear hrw b2 l2 l3 HC2 HN
  go_wp2_with fail
  refine CG.mono ?_
  rintro e W3 ⟨k3, n, rfl, b3, Ps, nb0, od, pr, gn0, hpl, hri, hhd, ht, ls⟩
  have HLS := mkHid ls
  clear ls
  have l6 := cell_belowX b3 l4
  have l7 := cell_belowX b3 l5
  have hsR := scc_perm gn0.scc (ord_perm ht hpl)
  have hnN : n ≤ N := by rw [← hpl]; exact scc_len gn0.scc
  have C4 := numbersOf_any W3 (c := n) pr hsR.lt (scc_apart hsR) (by have := HS.out.2.2.2.1; omega : N ≤ 100000) (by have := HS.out.2.2.2.1; omega) (scc_plen hsR)
  have HB3 := mkHid (And.intro b3 (And.intro gn0 (And.intro hpl (And.intro hri (And.intro hhd (And.intro ht (And.intro hsR hnN)))))))
  clear b3 pr gn0 hpl hri hhd ht hsR hnN l4 l5 CG
  go_wp2_with fail
  refine C4.mono ?_
  rintro e W4 ⟨nb, rfl, nm, rO, b4⟩
  obtain ⟨b3, gn0, hpl, hri, hhd, ht, hsR, hnN⟩ := HB3.out
  obtain ⟨hrw, b2⟩ := HB2.out
  obtain ⟨b01, b1⟩ := HB1.out
  have hRl : (od.map fun i => Ps.getD i []).length = n := by rw [List.length_map]; exact ht.len
  have gn2 : Gn (ndF N E) N (od.map fun i => Ps.getD i []) nb := ⟨hsR, by rw [hRl]; exact nm⟩
  have b24 := b3.trans (b4.mono b3.size)
  have b02 := b01.trans (b2.mono b01.size)
  have b04 := b02.trans (b24.mono b02.size)
  have C5 := between_any W4 (n := n) (hrw.below b24) nm.len rO (fun x hx => by have := gn2.lt hx; rw [hRl] at this; exact this) (fun v _ x hx => ndF_lt v x hx) ndF_len (by have := HS.out.2.2.2.1; omega) (by have := HS.out.2.2.2.1; omega)
  have r1 := HS.out.2.2.1
  have r14 : W4.heap[kG + 1]? = some (.cells #[.int .i64 0, .slice none 0 0] 24 (0, 0)) := by
    have k1 := (Array.getElem?_eq_some_iff.1 r1).1
    have e1 := (b1.block _ k1).trans r1
    have e2 := (b2.block _ (Array.getElem?_eq_some_iff.1 e1).1).trans e1
    exact (b24.block _ (Array.getElem?_eq_some_iff.1 e2).1).trans e2
  have lR : kG + 1 < W3.heap.size := by
    have k1 := (Array.getElem?_eq_some_iff.1 r1).1
    exact Nat.lt_of_lt_of_le k1 (Nat.le_trans b1.size (Nat.le_trans b2.size b3.size))
  have l03 : w.heap.size ≤ W3.heap.size := Nat.le_trans b02.size b3.size
  have HB4 := mkHid (And.intro gn2 (And.intro b04 (And.intro rO (And.intro r14 (And.intro lR (And.intro l03 (And.intro b4.size hRl)))))))
  clear b3 gn0 hpl hri hhd ht hsR hnN hrw b2 b01 b1 hRl gn2 b24 b02 b04 nm rO b4 r1 r14 lR l03 C4 l6 l7
  go_wp2_with fail
  refine C5.mono ?_
  rintro e W5 ⟨g5, V5, rfl, R5, b5, -⟩
  have C6 := graph_any n (by have := HB3.out.2.2.2.2.2.2.2; have := HS.out.2.2.2.1; omega) (btw (ndF N E) nb N n) (btw_small (Nat.le_trans HB3.out.2.2.2.2.2.2.2 HS.out.2.2.2.1)) g5 V5 W5 R5
  have HB5 := mkHid b5
  clear R5 b5 C5
  go_wp2_with fail
  refine C6.mono ?_
  rintro e W6 ⟨u, rfl, eu, b6, fu⟩
  obtain ⟨ou, cu, hu, -, -⟩ := eu.form
  obtain ⟨mu, hmu⟩ : ∃ k, (zE (edg (btw (ndF N E) nb N n) n)).length = k := ⟨_, rfl⟩
  rw [hmu] at hu
  subst hu
  obtain ⟨gn2, b04, rO, r14, lR, l03, l34, hRl⟩ := HB4.out
  have b46 := HB5.out.trans (b6.mono HB5.out.size)
  have r16 := (b46.block _ (Array.getElem?_eq_some_iff.1 r14).1).trans r14
  have rO6 := (b46.block _ (Array.getElem?_eq_some_iff.1 rO).1).trans rO
  have b06 := b04.trans (b46.mono b04.size)
  have z0 : W6.cell? ⟨kG + 1, 0, none⟩ = some (.int .i64 0) := (cell_of_row _ _ _ _ _ _ r16).trans rfl
  have z1 : W6.cell? ⟨kG + 1, 1, none⟩ = some (.slice none 0 0) := (cell_of_row _ _ _ _ _ _ r16).trans rfl
  have f0 := frozen_of_row W6 (kG + 1) 0 _ _ r16
  have f1 := frozen_of_row W6 (kG + 1) 1 _ _ r16
  have HE := mkHid (And.intro eu (And.intro b06 (And.intro r16 (And.intro rO6 (And.intro gn2 (And.intro hRl (And.intro l03 (And.intro lR (fun q hq => by
    have h1 := fu q hq
    have h2 := HB5.out.size
    omega : ∀ q, (Value.slice ou mu cu).ownBlock = some q → kG + 1 < q)))))))))
  unfold grV
  clear eu b06 fu r16 rO6 hmu gn2 b04 rO r14 lR l03 l34 hRl b46 b6 C6
  go_wp2_with fail
  obtain ⟨eu, b06, r16, rO6, gn2, hRl, l03, lR, fu⟩ := HE.out
  obtain ⟨-, gn0, hpl, hri, hhd, ht, -, hnN⟩ := HB3.out
  refine bodyPost_ret (results_Gtt rfl _ _ (kG + 1) (.int .i64 (n : Int)) (.slice ou mu cu) rfl (set2G _ _ r16)) rfl ⟨n, W3.heap.size, .slice ou mu cu, nb, _, rfl, below_set2 _ _ (by omega) b06, eu.keep (by simp [World.setCell]) (fun q hq _ => set2_other _ _ q (by have := fu q hq; omega)), (set2_other _ _ _ (by omega)).trans rO6, gn2, hRl, hnN, l03, Ps, nb0, od, rfl, gn0, hpl, hri, hhd, ht, HLS.out⟩
end Go.Proofs.Ytibhjkmbbfgnpaa

/- Graphs in groups: orders and groups are one (mathematics). -/
namespace Go.Proofs.Ytibhjkmbbfgnpaa
open GM Gl
section
variable {L F : Nat → List Nat} {N n : Nat} {o o' : List Nat} {Ps Qs : List (List Nat)} {nb p q : List Nat}
theorem top_split (h : Top L N o) {k : Nat} (hk : k < N) : o = o.take k ++ o.getD k 0 :: o.drop (k + 1) := by
  have hl := h.len
  have e : o.getD k 0 = o[k]'(by omega) := by simp [List.getD, show k < o.length by omega]
  rw [e, ← List.drop_eq_getElem_cons, List.take_append_drop]
theorem top_not (h : Top L N o) {k : Nat} (hk : k < N) : o.getD k 0 ∉ o.take k := fun q => by
  have hs := top_split h hk
  have nd := h.nd
  rw [hs] at nd
  exact (List.nodup_append.1 nd).2.2 _ q _ List.mem_cons_self rfl
/-- There is one such order alone. -/
theorem top_ls_uniq (h : Top L N o) (l : Ls L N o) (h' : Top L N o') (l' : Ls L N o') : o = o' := by
  have key : ∀ k, k ≤ N → o.take k = o'.take k := by
    intro k
    induction k with
    | zero => intro _; simp
    | succ k ih =>
      intro hk
      have e := ih (by omega)
      have s := top_split h (by omega : k < N)
      have s' := top_split h' (by omega : k < N)
      have v1 : o.getD k 0 ≤ o'.getD k 0 := l _ _ _ s _ (top_lt h' (by omega)) (by rw [e]; exact top_not h' (by omega)) (fun b hb => by rw [e]; exact h'.up _ _ _ s' b hb)
      have v2 : o'.getD k 0 ≤ o.getD k 0 := l' _ _ _ s' _ (top_lt h (by omega)) (by rw [← e]; exact top_not h (by omega)) (fun b hb => by rw [← e]; exact h.up _ _ _ s b hb)
      have ev : o.getD k 0 = o'.getD k 0 := Nat.le_antisymm v1 v2
      have g : o[k]? = some (o.getD k 0) := by simp [List.getD, show k < o.length by have := h.len; omega]
      have g' : o'[k]? = some (o'.getD k 0) := by simp [List.getD, show k < o'.length by have := h'.len; omega]
      rw [List.take_add_one, List.take_add_one, e, g, g', ev]
  have := key N (Nat.le_refl _)
  rwa [List.take_of_length_le (by have := h.len; omega), List.take_of_length_le (by have := h'.len; omega)] at this
theorem rise_nodup (h : p.Pairwise (· < ·)) : p.Nodup := h.imp fun k e => by omega
theorem part_mem (h : Part F p) {x : Nat} (hx : x ∈ p) (y : Nat) : y ∈ p ↔ Rc F y x ∧ Rc F x y :=
  ⟨fun hy => ⟨part_rc h hy hx, part_rc h hx hy⟩, fun ⟨h1, h2⟩ => part_in h hx h2 h1⟩
theorem part_eq (h : Part F p) (h' : Part F q) (hp : p.Pairwise (· < ·)) (hq : q.Pairwise (· < ·)) {x : Nat} (hx : x ∈ p) (hx' : x ∈ q) : p = q :=
  List.Perm.eq_of_pairwise (le := (· < ·)) (fun a b _ _ h1 h2 => by omega) hp hq ((List.perm_ext_iff_of_nodup (rise_nodup hp) (rise_nodup hq)).2 fun y => (part_mem h hx y).trans (part_mem h' hx' y).symm)
theorem head_mem (h : Part F p) : p.getD 0 0 ∈ p := by
  obtain ⟨-, v, hv, -⟩ := h
  cases p with
  | nil => cases hv
  | cons a r => simp [List.getD]
theorem scc_nodup (h : Scc F N Ps) : Ps.Nodup := by
  refine List.Pairwise.imp_of_mem ?_ h.dj
  intro p q hp hq k e
  subst e
  exact k _ (head_mem (h.pt p hp)) (head_mem (h.pt p hp))
theorem scc_uniq (h : Scc F N Ps) (h' : Scc F N Qs) (hp : ∀ p ∈ Ps, p.Pairwise (· < ·)) (hq : ∀ p ∈ Qs, p.Pairwise (· < ·)) (sp : Ps.Pairwise fun p q => p.getD 0 0 ≤ q.getD 0 0) (sq : Qs.Pairwise fun p q => p.getD 0 0 ≤ q.getD 0 0) : Ps = Qs := by
  have sub {A B : List (List Nat)} (hA : Scc F N A) (hB : Scc F N B) (rA : ∀ p ∈ A, p.Pairwise (· < ·)) (rB : ∀ p ∈ B, p.Pairwise (· < ·)) (p : List Nat) (k : p ∈ A) : p ∈ B := by
    have m := head_mem (hA.pt p k)
    obtain ⟨q, q1, q2⟩ := hB.cv _ (hA.lt p k _ m)
    rw [part_eq (hA.pt p k) (hB.pt q q1) (rA p k) (rB q q1) m q2]
    exact q1
  refine List.Perm.eq_of_pairwise (le := fun p q : List Nat => p.getD 0 0 ≤ q.getD 0 0) (fun a b ha hb h1 h2 => ?_) sp sq ((List.perm_ext_iff_of_nodup (scc_nodup h) (scc_nodup h')).2 fun p => ⟨sub h h' hp hq p, sub h' h hq hp p⟩)
  have e := Nat.le_antisymm h1 h2
  exact part_eq (h.pt a ha) (h'.pt b hb) (hp a ha) (hq b hb) (head_mem (h.pt a ha)) (by rw [e]; exact head_mem (h'.pt b hb))
theorem nb_uniq {nb nb' : List Nat} (h : Gn F N Ps nb) (h' : Gn F N Ps nb') : nb = nb' := by
  apply List.ext_getElem (by rw [h.nm.len, h'.nm.len])
  intro k h1 h2
  have hk : k < N := by rw [← h.nm.len]; exact h1
  obtain ⟨p, q1, q2⟩ := h.at hk
  have := h'.nm.lo _ p (h.lt hk) q1 k q2
  simpa [List.getD, h1, h2] using this.symm
/-- The groups in their order. -/
def GrU (F : Nat → List Nat) (N n : Nat) (Rs : List (List Nat)) : Prop := ∃ Ps nb0 od, Rs = (od.map fun i => Ps.getD i []) ∧ Gn F N Ps nb0 ∧ Ps.length = n ∧ (∀ p ∈ Ps, p.Pairwise (· < ·)) ∧ (Ps.Pairwise fun p q => p.getD 0 0 ≤ q.getD 0 0) ∧ Top (btw F nb0 N n) n od ∧ Ls (btw F nb0 N n) n od
theorem gru_uniq {n' : Nat} {Rs Rs' : List (List Nat)} (h : GrU F N n Rs) (h' : GrU F N n' Rs') : n = n' ∧ Rs = Rs' := by
  obtain ⟨Ps, nb, od, rfl, gn, ln, ri, hd, tp, ls⟩ := h
  obtain ⟨Ps', nb', od', rfl, gn', ln', ri', hd', tp', ls'⟩ := h'
  have e := scc_uniq gn.scc gn'.scc ri ri' hd hd'
  subst e
  have e2 := nb_uniq gn gn'
  subst e2
  rw [ln] at ln'
  subst ln'
  have e3 := top_ls_uniq tp ls tp' ls'
  subst e3
  exact ⟨rfl, rfl⟩
/-- Each needs lesser ones alone: the order is 0, 1, 2, .. -/
theorem falls_top (h : ∀ i, i < n → ∀ j ∈ L i, j < i) : Top L n (List.range n) ∧ Ls L n (List.range n) := by
  have pre : ∀ p v q, List.range n = p ++ v :: q → p = List.range v ∧ v < n := by
    intro p v q e
    have hl : p.length < n := by
      have := congrArg List.length e
      simp at this
      omega
    have ev : v = p.length := by
      have h1 : (List.range n)[p.length]? = some v := by rw [e]; simp
      rw [List.getElem?_range hl] at h1
      exact (Option.some.inj h1).symm
    have ep : p = List.range p.length := by
      have h1 := congrArg (List.take p.length) e
      rw [List.take_left', List.take_range] at h1
      · rw [Nat.min_eq_left (by omega)] at h1
        exact h1.symm
      · rfl
    exact ⟨by rw [ev]; exact ep, by omega⟩
  refine ⟨⟨List.nodup_range, fun v hv => List.mem_range.2 hv, fun v hv => List.mem_range.1 hv, fun p v q e b hb => ?_⟩, fun p v q e u hu hp _ => ?_⟩
  · obtain ⟨rfl, hv⟩ := pre p v q e
    exact List.mem_range.2 (h v hv b hb)
  · obtain ⟨rfl, hv⟩ := pre p v q e
    rw [List.mem_range] at hp
    omega
/-- In their order, groups need what stands ahead. -/
theorem gru_falls {Rs : List (List Nat)} (h : GrU F N n Rs) (hl : Rs.length = n) (gn2 : Gn F N Rs nb) (hF : ∀ v, v < N → ∀ x ∈ F v, x < N) : ∀ i, i < n → ∀ j ∈ btw F nb N n i, j < i := by
  obtain ⟨Ps, nb0, od, rfl, gn, ln, ri, hd, tp, ls⟩ := h
  intro i hi j hj
  obtain ⟨hjn, x, y, x1, x2, x3, x4, x5⟩ := mem_btw.1 hj
  have hy := hF x x1 y x2
  have at' (z : Nat) (hz : z < N) : nb0.getD z 0 = od.getD (nb.getD z 0) 0 := by
    obtain ⟨p, p1, p2⟩ := gn2.at hz
    rw [List.getElem?_map] at p1
    obtain ⟨k, k1, k2⟩ := Option.map_eq_some_iff.1 p1
    have e1 : od.getD (nb.getD z 0) 0 = k := by simp only [List.getD] at k1 ⊢; rw [k1]; rfl
    have hk : k < Ps.length := by
      rw [ln]
      exact tp.lt k (List.mem_of_getElem? k1)
    rw [e1]
    exact gn.nm.lo k p hk (by rw [← k2]; simp [List.getD, hk]) z p2
  have ex := at' x x1
  have ey := at' y hy
  rw [x3] at ex
  rw [x4] at ey
  have hne : od.getD i 0 ≠ od.getD j 0 := fun e => x5 (top_inj tp hi hjn e)
  have hm : od.getD j 0 ∈ btw F nb0 N n (od.getD i 0) := mem_btw.2 ⟨top_lt tp hjn, x, y, x1, x2, ex, ey, hne⟩
  obtain ⟨k, k1, k2⟩ := top_pos tp hi _ hm
  have := top_inj tp (by omega) hjn k2
  omega
end
end Go.Proofs.Ytibhjkmbbfgnpaa
