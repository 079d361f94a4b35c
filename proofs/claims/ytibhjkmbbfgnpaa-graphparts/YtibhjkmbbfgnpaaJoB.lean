/- Several texts in one: GoH, GoN, GoP, GoC. -/
import Derived.Test.YtibhjkmbbfgnpaaGxC
import Derived.Shelf.Lay
import Derived.Shelf.Slices.SearchI
import Derived.Shelf.Slices.Empties
import Derived.Ground.Names2Prog
import Derived.Test.YtibhjkmbbfgnpaaJoA
import Derived.Test.YtibhjkmbbfgnpaaGzF
import Derived.Test.YtibhjkmbbfgnpaaGcD
import Derived.Test.YtibhjkmbbfgnpaaGxI
import Derived.Deep.QuietTactic
import Derived.BigQuiet
import Derived.Test.YtibhjkmbbfgnpaaGyE
import Derived.Test.YtibhjkmbbfgnpaaJoC
/- Graphs: whether one is needed by another: a search in a sorted list. -/
namespace Go.Proofs.Ytibhjkmbbfgnpaa
open Go.RowKit GM
set_option maxRecDepth 20000
shelf_lay Lays2.n25 Nm2 25 at Try as Try.bsI
set_option maxRecDepth 100000 in
/-- BinarySearch of a rising list. -/
theorem bs_any (w : World) {g : Nat} {v : Value} {l : List Nat} (h : Il g v l w) (hl : l.length < 1000000000) (hs : l.Pairwise (· < ·)) (x : Nat) :
    Calls Try.prog 60 #[v, .int .i64 (x : Int)] w fun e w' => (∃ i : Nat, e = .returned (.tuple #[.int .i64 (i : Int), .bool (decide (x ∈ l))])) ∧ ∃ q, w' = w.drewN q := by
  obtain ⟨o, c, rfl, h1⟩ := h
  by_cases h0 : l.length = 0
  · have e : l = [] := List.length_eq_zero_iff.1 h0
    subst e
    refine Calls.mono (Any.slices_BinarySearch_int_empty Try.bsI o c (x : Int) w) ?_
    rintro e w' ⟨rfl, rfl⟩
    exact ⟨⟨0, by simp⟩, 0, rfl⟩
  · obtain ⟨off, rfl, hg, hc⟩ := h1 (by omega)
    have C := Any.slices_BinarySearch_int Try.bsI g off l.length c (l.map fun n : Nat => (n : Int)) (x : Int) w (by simp) (by omega) (fun j hj => by
      rw [List.length_map] at hj
      rw [hc j hj]
      simp [List.getD, List.getElem?_eq_getElem hj]) (by
      rw [← List.length_map (f := fun n : Nat => (n : Int)), List.take_length, List.pairwise_map]
      exact hs.imp fun h => by omega)
    have key : ((l.map fun n : Nat => (n : Int)).take l.length).contains (x : Int) = decide (x ∈ l) := by
      rw [← List.length_map (f := fun n : Nat => (n : Int)), List.take_length, Bool.eq_iff_iff]
      simp
      constructor
      · rintro ⟨a, h, e⟩
        obtain rfl : a = x := by omega
        exact h
      · exact fun h => ⟨x, h, rfl⟩
    rw [key] at C
    refine Calls.mono C ?_
    rintro e w' ⟨rfl, q, rfl⟩
    exact ⟨⟨_, rfl⟩, q, rfl⟩
set_option maxRecDepth 100000 in
theorem has_any (w : World) {g gv N a x : Nat} {v : Value} {l : List Nat} (hc : w.cell? ⟨g, a, none⟩ = some v) (h : Il gv v l w) (ha : a < N) (hl : l.length < 1000000000) (hs : l.Pairwise (· < ·)) :
    Calls Try.prog 45 #[.slice (some ⟨g, 0, none⟩) N N, .int .i64 (a : Int), .int .i64 (x : Int)] w fun e w' => e = .returned (.bool (decide (x ∈ l))) ∧ ∃ q, w' = w.drewN q := by
  have C := bs_any w h hl hs x
  obtain ⟨o, c, rfl, h1⟩ := h
  have i1 := ltI ha
  have i0 := geI a
  obtain ⟨m, hm⟩ : ∃ m, l.length = m := ⟨_, rfl⟩
  rw [hm] at C hc
  clear h1 hm hs hl
  go_enter Try.func45, Try.ntmps45
  go_wp2_with fail
  refine Calls.mono C ?_
  rintro e w' ⟨⟨i, rfl⟩, q, rfl⟩
  dsimp only
  go_wp2_with fail
  go_ret
  exact ⟨rfl, q, rfl⟩
end Go.Proofs.Ytibhjkmbbfgnpaa

/- Graphs: the least of some numbers. -/
namespace Go.Proofs.Ytibhjkmbbfgnpaa
open Go.RowKit GM
set_option maxRecDepth 20000
/-- The least of a list. -/
def lst1 : List Nat → Nat
  | [] => 0
  | x :: l => l.foldl min x
theorem foldl_min (l : List Nat) : ∀ x, l.foldl min x ≤ x ∧ (∀ y ∈ l, l.foldl min x ≤ y) ∧ (l.foldl min x = x ∨ l.foldl min x ∈ l) := by
  induction l with
  | nil => intro x; simp
  | cons a l ih =>
    intro x
    obtain ⟨h1, h2, h3⟩ := ih (min x a)
    simp only [List.foldl_cons]
    refine ⟨by omega, fun y hy => ?_, ?_⟩
    · rcases List.mem_cons.1 hy with q | q
      · subst q; omega
      · exact h2 y q
    · rcases h3 with q | q
      · by_cases k : x ≤ a
        · left; rw [q]; omega
        · right; rw [q, Nat.min_eq_right (by omega)]; simp
      · exact .inr (List.mem_cons_of_mem _ q)
theorem lst1_le {l : List Nat} : ∀ y ∈ l, lst1 l ≤ y := by
  cases l with
  | nil => intro y h; cases h
  | cons x l =>
    intro y hy
    obtain ⟨h1, h2, h3⟩ := foldl_min l x
    rcases List.mem_cons.1 hy with q | q
    · subst q; exact h1
    · exact h2 y q
theorem lst1_mem {l : List Nat} (h : 0 < l.length) : lst1 l ∈ l := by
  cases l with
  | nil => simp at h
  | cons x l =>
    obtain ⟨h1, h2, h3⟩ := foldl_min l x
    rcases h3 with q | q
    · show l.foldl min x ∈ x :: l
      rw [q]; simp
    · exact List.mem_cons_of_mem _ q
theorem lst1_succ {l : List Nat} {i : Nat} (h0 : 0 < i) (hi : i < l.length) : lst1 (l.take (i + 1)) = min (lst1 (l.take i)) (l.getD i 0) := by
  cases l with
  | nil => simp at hi
  | cons x l =>
    obtain ⟨j, rfl⟩ : ∃ j, i = j + 1 := ⟨i - 1, by omega⟩
    show (l.take (j + 1)).foldl min x = min ((l.take j).foldl min x) (l.getD j 0)
    have hj : j < l.length := by simpa using hi
    rw [List.take_add_one, List.getElem?_eq_getElem hj, List.foldl_append]
    simp [List.getD, List.getElem?_eq_getElem hj]
theorem minI (a b : Nat) : (if (b : Int) < (a : Int) then (b : Int) else (a : Int)) = ((min a b : Nat) : Int) := by
  split <;> omega
set_option maxRecDepth 100000 in
set_option maxHeartbeats 1600000 in
theorem min_any (w : World) {g : Nat} {v : Value} {l : List Nat} (h : Il g v l w) (h0 : 0 < l.length) (hl : l.length < 1000000000) :
    Calls Try.prog 58 #[v] w fun e w' => e = .returned (.int .i64 ((lst1 l : Nat) : Int)) ∧ w' = w := by
  obtain ⟨o, c, rfl, h1⟩ := h
  obtain ⟨off, rfl, hg, hc⟩ := h1 h0
  obtain ⟨m, hm⟩ : ∃ m, l.length = m := ⟨_, rfl⟩
  have c0 := hc 0 h0
  rw [hm] at h0 hl ⊢
  have m0 : (0 : Int) < (m : Int) := by omega
  have m1 : ¬ ((m : Int) < 1) := by omega
  obtain ⟨x0, hx0⟩ : ∃ x, l.getD 0 0 = x := ⟨_, rfl⟩
  rw [hx0, Nat.add_zero] at c0
  have HQ := mkHid (And.intro hc (And.intro hm (And.intro h0 (And.intro hl hx0))))
  clear hc hm h0 hl hx0 h1 hg
  go_enter Try.func58, Try.ntmps58
  go_wp2_with fail
  have hs0 : lst1 (l.take 1) = x0 := by
    obtain ⟨-, hm, h0, -, hx0⟩ := HQ.out
    cases l with
    | nil => simp at hm; omega
    | cons y r => exact hx0
  go_loopw [4, 3] (fun iv mv wr => ∃ i : Nat, iv = .int .i64 (i : Int) ∧ mv = .int .i64 ((lst1 (l.take i) : Nat) : Int) ∧ 0 < i ∧ i ≤ m ∧ wr = w) (fun iv _ _ => m - (intOf iv).toNat)
  case atStart => exact ⟨1, rfl, by rw [hs0], Nat.one_pos, HQ.out.2.2.1, rfl⟩
  case round =>
    obtain ⟨i, rfl, rfl, hp, hi, rfl⟩ := hrel
    by_cases hlt : i < m
    · have i1 := ltI hlt
      have i0 := geI i
      obtain ⟨hc, hm, h0, hl, hx0⟩ := HQ.out
      have ci := hc i (by omega)
      obtain ⟨x, hx⟩ : ∃ x, l.getD i 0 = x := ⟨_, rfl⟩
      obtain ⟨u, hu⟩ : ∃ u, lst1 (l.take i) = u := ⟨_, rfl⟩
      have hw1 := wrapI i (by omega)
      have hs := lst1_succ hp (hm.symm ▸ hlt)
      rw [hx, hu] at hs
      rw [hx] at ci
      rw [hu]
      have HN := mkHid (And.intro hs (And.intro hlt hp))
      clear hc hm h0 hl hx0 hs hlt hu hx hs0 c0
      go_wp2_with fail
      exact ⟨⟨i + 1, by rw [hw1]; rfl, by rw [HN.out.1]; congr 1; omega, Nat.succ_pos i, HN.out.2.1, trivial⟩, by rw [hw1]; exact measI _ _ HN.out.2.1⟩
    · have i1 := nltI hlt
      have e := eqI hi hlt
      obtain ⟨hc, hm, h0, hl, hx0⟩ := HQ.out
      rw [e, ← hm, List.take_length]
      clear hc hl hx0 hs0 c0 hp hi hlt
      rw [e] at i1
      rw [hm]
      go_wp2_with fail
      go_ret
      exact ⟨rfl, rfl⟩
end Go.Proofs.Ytibhjkmbbfgnpaa

/- Graphs: the least node on a cycle. -/
namespace Go.Proofs.Ytibhjkmbbfgnpaa
open Go.RowKit GM Gl
set_option maxRecDepth 20000
/-- One of the lists. -/
theorem pl_cell {B n c i : Nat} {o : Option Addr} {Ps : List (List Nat)} {vs : List Value} {w : World} (h : Pl B (.slice o n c) n Ps vs w) (hi : i < n) : ∃ g v p gp, o = some ⟨g, 0, none⟩ ∧ w.cell? ⟨g, i, none⟩ = some v ∧ Ps[i]? = some p ∧ Il gp v p w := by
  have hn := h.num
  obtain ⟨h0, h1⟩ := h.row
  have hl : vs.length = n := by simpa using h0
  have hiv : i < vs.length := by omega
  have hip : i < Ps.length := by omega
  obtain ⟨m, hm⟩ := h.own i vs[i] Ps[i] (List.getElem?_eq_getElem hiv) (List.getElem?_eq_getElem hip)
  obtain ⟨gp, hgp, -⟩ := own_il hm
  rcases h1 with ⟨-, h1⟩ | ⟨g, cap, cur, e, hB, hg, hnc, hcm, hcs, htk⟩
  · rw [h1] at hl; simp at hl; omega
  · injection e with e1 e2 e3
    refine ⟨g, vs[i], Ps[i], gp, e1, ?_, List.getElem?_eq_getElem hip, hgp⟩
    refine (cell_of_row _ _ _ _ _ _ hg).trans ?_
    rw [← Array.getElem?_toList]
    have : (cur.toList.take (n * 1))[i]? = vs[i]? := by rw [htk]
    rw [List.getElem?_take_of_lt (by omega)] at this
    rw [this, List.getElem?_eq_getElem hiv]
theorem il_bel {g : Nat} {v : Value} {l : List Nat} {w w' : World} (h : Il g v l w) (hb : Below w.heap.size w w') : Il g v l w' := by
  obtain ⟨o, c, h1, h2⟩ := h
  refine ⟨o, c, h1, fun hl => ?_⟩
  obtain ⟨off, e1, e2, e3⟩ := h2 hl
  exact ⟨off, e1, Nat.lt_of_lt_of_le e2 hb.size, fun j hj => (World.cell?_of_block (w := w) (hb.block _ e2)).trans (e3 j hj)⟩
theorem bel_drP (w : World) (n : Nat) : Below w.heap.size w (w.drewN n) := ⟨rfl, rfl, rfl, Nat.le_refl _, fun _ _ => rfl⟩
theorem scc_len {F : Nat → List Nat} {N : Nat} {Ps : List (List Nat)} (h : Scc F N Ps) : Ps.length ≤ N := by
  have hd : ∀ p ∈ Ps, p.getD 0 0 ∈ p := fun p hp => by
    obtain ⟨-, z, hz, -⟩ := h.pt p hp
    exact getD_memN (List.length_pos_of_mem hz)
  have nd : (Ps.map fun p => p.getD 0 0).Nodup := by
    unfold List.Nodup
    rw [List.pairwise_map]
    exact h.dj.imp_of_mem fun {p q} hp hq k e => k _ (hd p hp) (by rw [e]; exact hd q hq)
  have := List.Nodup.length_le_of_subset (l₂ := List.range N) nd (fun x hx => by
    obtain ⟨p, p1, p2⟩ := List.mem_map.1 hx
    rw [← p2]
    exact List.mem_range.2 (h.lt p p1 _ (hd p p1)))
  simpa using this
set_option maxRecDepth 100000 in
set_option maxHeartbeats 3200000 in
theorem least_any (w : World) {F : Nat → List Nat} {N g : Nat} {V : Nat → Value} (h : Rws g N F V w) (hN : N ≤ 8192) (hF : ∀ v, v < N → ∀ x ∈ F v, x < N) (hl : ∀ v, (F v).length ≤ N) (h0 : ∀ a, N ≤ a → F a = []) (hs : ∀ v, (F v).Pairwise (· < ·)) :
    Calls Try.prog 42 #[.slice (some ⟨g, 0, none⟩) N N] w fun e w' => Below w.heap.size w w' ∧ ∃ m : Nat, e = .returned (.tuple #[.int .i64 (m : Int), .bool (decide (m < N))]) ∧ ((m = N ∧ ∀ v, v < N → ¬ TG F v v) ∨ (m < N ∧ TG F m m ∧ ∀ v, v < N → TG F v v → m ≤ v)) := by
  have CC := comp_any w h hN hF hl h0
  obtain ⟨gv, hro⟩ := rws_ro h
  have HQ := mkHid (And.intro hN (And.intro hF (And.intro hl (And.intro hs hro))))
  clear h hN hF hl h0 hs hro
  go_enter Try.func42, Try.ntmps42
  go_wp2_with fail
  refine CC.mono ?_
  rintro e W1 ⟨o, n, c, Ps, vs, rfl, hp, hc, b1⟩
  have HP := mkHid (And.intro hp (And.intro hc (And.intro b1 hp.num)))
  clear CC hp hc b1
  go_wp2_with fail
  go_loopw [12, 4] (fun iv mv wr => ∃ i m k : Nat, iv = .int .i64 (i : Int) ∧ mv = .int .i64 (m : Int) ∧ i ≤ n ∧ wr = W1.drewN k ∧ Hid (Lc F N Ps i m)) (fun iv _ _ => n - (intOf iv).toNat)
  case atStart => exact ⟨0, N, 0, rfl, rfl, Nat.zero_le _, rfl, lc_zero F N Ps⟩
  case round =>
    obtain ⟨i, m, k, rfl, rfl, hi, rfl, HL⟩ := hrel
    by_cases hlt : i < n
    · have i1 := ltI hlt
      have i0 := geI i
      obtain ⟨hN, hF, hl, hs, hro⟩ := HQ.out
      obtain ⟨hp, hc, b1, hn⟩ := HP.out
      obtain ⟨gb, v, p, gp, rfl, cv, hpi, ilp⟩ := pl_cell hp hlt
      have hmem := List.mem_of_getElem? hpi
      have hpt := hc.pt p hmem
      have hplt := hc.lt p hmem
      have hp0 : 0 < p.length := by
        obtain ⟨-, z, hz, -⟩ := hpt
        exact List.length_pos_of_mem hz
      have hpl : p.length ≤ N := by
        have := List.Nodup.length_le_of_subset (l₁ := p) (l₂ := List.range N) hpt.1 (fun x hx => List.mem_range.2 (hplt x hx))
        simpa using this
      have hnN : n ≤ 1000000 := by have := scc_len hc; omega
      have hw1 := wrapI i (by omega)
      have CM : ∀ q, Calls Try.prog 58 #[v] (W1.drewN q) fun e w' => e = .returned (.int .i64 ((lst1 p : Nat) : Int)) ∧ w' = W1.drewN q := fun q => min_any (W1.drewN q) (ilp.keep (Nat.le_refl _) rfl) hp0 (by omega)
      obtain ⟨op, cp, rfl, h1⟩ := ilp
      obtain ⟨off, rfl, hgp, hcc⟩ := h1 hp0
      have c0 := hcc 0 hp0
      obtain ⟨x0, hx0⟩ : ∃ x, p.getD 0 0 = x := ⟨_, rfl⟩
      rw [hx0, Nat.add_zero] at c0
      have hx0m : x0 ∈ p := by rw [← hx0]; exact getD_memN hp0
      have hx0N := hplt x0 hx0m
      have CH : ∀ q, Calls Try.prog 45 #[.slice (some ⟨g, 0, none⟩) N N, .int .i64 (x0 : Int), .int .i64 (x0 : Int)] (W1.drewN (k + q)) fun e w' => e = .returned (.bool (decide (x0 ∈ F x0))) ∧ ∃ z, w' = W1.drewN (k + z) := fun q => by
        obtain ⟨r1, r2, -⟩ := hro x0 hx0N
        have q1 : (W1.drewN (k + q)).cell? ⟨g, x0, none⟩ = some (V x0) := cell_belowX b1 r1
        have q2 : Il (gv x0) (V x0) (F x0) (W1.drewN (k + q)) := (il_bel r2 b1).keep (Nat.le_refl _) rfl
        refine (has_any _ q1 q2 hx0N (by have := hl x0; omega) (hs x0)).mono ?_
        rintro e w' ⟨rfl, z, rfl⟩
        exact ⟨rfl, q + z, by rw [World.drewN_drewN, Nat.add_assoc]⟩
      have hcy := fun x hx => part_cyc (x := x) hpt hx
      rw [hx0] at hcy
      have hst : (1 < p.length ∨ x0 ∈ F x0) → Lc F N Ps (i + 1) (min m (lst1 p)) := fun q => HL.out.take hpi (fun x hx => (hcy x hx).1 q) (lst1_mem hp0) lst1_le (hplt _ (lst1_mem hp0))
      have hsk : ¬ (1 < p.length ∨ x0 ∈ F x0) → Lc F N Ps (i + 1) m := fun q => HL.out.skip hpi (fun x hx k => q ((hcy x hx).2 k))
      have yv : ∀ q, (W1.drewN q).cell? ⟨gb, i, none⟩ = some (.slice (some ⟨gp, off, none⟩) p.length cp) := fun _ => cv
      have y0 : ∀ q, (W1.drewN q).cell? ⟨gp, off, none⟩ = some (.int .i64 (x0 : Int)) := fun _ => c0
      obtain ⟨u, hu⟩ : ∃ u, lst1 p = u := ⟨_, rfl⟩
      obtain ⟨np, hnp⟩ : ∃ u, p.length = u := ⟨_, rfl⟩
      rw [hu] at CM hst
      rw [hnp] at CM yv hst hsk hp0
      have n0 : (0 : Int) < (np : Int) := by omega
      have x1 : (0 : Int) ≤ (x0 : Int) := geI x0
      have x2 : (x0 : Int) < (N : Int) := ltI hx0N
      clear hN hF hl hs hro hp hc b1 hn cv hpi hmem hpt hplt hpl hnN h1 hgp hcc c0 hx0 hx0m hcy hu hnp hx0N
      by_cases hg : 1 < np
      · have g1 : decide ((1 : Int) < (np : Int)) = true := decide_eq_true (by omega)
        have g2 : (1 : Int) < (np : Int) := by omega
        have HN := mkHid (And.intro (hst (.inl hg)) hlt)
        clear hst hsk hg hlt CH
        go_wp2_with fail
        go_quiet (fail)
        go_wp2_with fail
        refine (CM _).mono ?_
        rintro e w2 ⟨rfl, rfl⟩
        have em : (min (m : Int) (u : Int)) = ((min m u : Nat) : Int) := by omega
        clear CM
        go_wp2_with fail
        exact ⟨⟨i + 1, min m u, _, by rw [hw1]; rfl, by first | rfl | rw [em], HN.out.2, rfl, HN.out.1⟩, by rw [hw1]; exact measI _ _ HN.out.2⟩
      · have g1 : decide ((1 : Int) < (np : Int)) = false := decide_eq_false (by omega)
        have g2 : ¬ (1 : Int) < (np : Int) := by omega
        by_cases hx : x0 ∈ F x0
        · have HN := mkHid (And.intro (hst (.inr hx)) hlt)
          rw [decide_eq_true hx] at CH
          clear hst hsk hg hlt hx
          go_wp2_with fail
          go_quiet ((go_at_call 45; exact CH _))
          go_wp2_with fail
          refine (CM _).mono ?_
          rintro e w2 ⟨rfl, rfl⟩
          have em : (min (m : Int) (u : Int)) = ((min m u : Nat) : Int) := by omega
          clear CM CH
          go_wp2_with fail
          exact ⟨⟨i + 1, min m u, _, by rw [hw1]; rfl, by first | rfl | rw [em], HN.out.2, rfl, HN.out.1⟩, by rw [hw1]; exact measI _ _ HN.out.2⟩
        · have HN := mkHid (And.intro (hsk (fun k => k.elim hg hx)) hlt)
          rw [decide_eq_false hx] at CH
          clear hst hsk hg hlt hx CM
          go_wp2_with fail
          go_quiet ((go_at_call 45; exact CH _))
          go_wp2_with fail
          exact ⟨⟨i + 1, m, _, by rw [hw1]; rfl, rfl, HN.out.2, rfl, HN.out.1⟩, by rw [hw1]; exact measI _ _ HN.out.2⟩
    · have i1 := nltI hlt
      have e := eqI hi hlt
      have q := HL.out
      obtain ⟨hp, hc, b1, hn⟩ := HP.out
      rw [e, hn] at q
      have HN := mkHid (And.intro (b1.trans ((bel_drP W1 k).mono b1.size)) (q.done hc))
      have em : decide ((m : Int) < (N : Int)) = decide (m < N) := by
        rw [decide_eq_decide]; omega
      clear hp hc b1 hn q e hi hlt
      go_wp2_with fail
      go_ret2
      exact ⟨HN.out.1, m, rfl, HN.out.2⟩
end Go.Proofs.Ytibhjkmbbfgnpaa

/- Graphs: the least cycle. -/
namespace Go.Proofs.Ytibhjkmbbfgnpaa
open Go.RowKit GM Gl
set_option maxRecDepth 20000
theorem ndF_rise (N : Nat) (E : List (Nat × Nat)) (v : Nat) : (ndF N E v).Pairwise (· < ·) := List.Pairwise.filter _ List.pairwise_lt_range
theorem tg_last {F : Nat → List Nat} {a c : Nat} (h : TG F a c) : ∃ u, Rc F a u ∧ c ∈ F u := by
  induction h with
  | one q => exact ⟨_, Rc.refl F _, q⟩
  | more q _ ih =>
    obtain ⟨u, u1, u2⟩ := ih
    exact ⟨u, (Rc.one q).trans u1, u2⟩
set_option maxRecDepth 100000 in
/-- The closure that tells whether the way is back. -/
theorem cycC_any (W : World) {kn ka g gv N v a : Nat} {V : Value} {l : List Nat} (hn : W.cell? ⟨kn, 0, none⟩ = some (.slice (some ⟨g, 0, none⟩) N N)) (ha : W.cell? ⟨ka, 0, none⟩ = some (.int .i64 (a : Int))) (hc : W.cell? ⟨g, v, none⟩ = some V) (h : Il gv V l W) (hv : v < N) (hl : l.length < 1000000000) (hs : l.Pairwise (· < ·)) :
    Calls Try.prog 44 #[.int .i64 (v : Int), .pointer (some ⟨kn, 0, none⟩), .pointer (some ⟨ka, 0, none⟩)] W fun e w' => e = .returned (.bool (decide (a ∈ l))) ∧ Below W.heap.size W w' := by
  have C := has_any W hc h hv hl hs (x := a)
  clear hc h hv hl hs
  go_enter Try.func44, Try.ntmps44
  go_wp2_with fail
  refine C.mono ?_
  rintro e w' ⟨rfl, q, rfl⟩
  clear C
  go_wp2_with fail
  go_ret
  exact ⟨rfl, bel_drP W q⟩
/-- What Cycle answers. -/
def CyP (N : Nat) (F : Nat → List Nat) (w : World) (e : Ending) (w' : World) : Prop := Below w.heap.size w w' ∧ ((∃ m d t L o c, m < N ∧ TG F m m ∧ (∀ v, v < N → TG F v v → m ≤ v) ∧ Pth F m t d L ∧ m ∈ F t ∧ (∀ x e, Ds F m e x → m ∈ F x → d ≤ e) ∧ e = .returned (.tuple #[.slice o (d + 1) c, .int .i64 0]) ∧ w'.ownsRow w.heap.size 3 1 (.slice o (d + 1) c) (d + 1) (ik L).toList) ∨
  e = .returned (.tuple #[.slice none 0 0, .int .i64 7]) ∧ ∀ v, v < N → ¬ TG F v v)
set_option maxRecDepth 100000 in
set_option maxHeartbeats 3200000 in
theorem cycle_any (N : Nat) (hN : N ≤ 8192) (E : List (Nat × Nat)) (hE : ∀ e ∈ E, e.1 < N ∧ e.2 < N) (hn : E.length ≤ 1000000) (v : Value) (w : World) (hv : El v (zE E) w) (hc : (chk (N : Int) (zE E)).1 = 0) :
    Calls Try.prog 23 #[grV (N : Int) v] w (CyP N (ndF N E) w) := by
  obtain ⟨W0, hW0⟩ : ∃ W0, w.alloc (.cells #[.int .i64 (N : Int), v] 24) = W0 := ⟨_, rfl⟩
  have b0 : Below w.heap.size w W0 := by rw [← hW0]; exact (Below.refl _ w).alloc (Nat.le_refl _) _
  have r0 : W0.heap[w.heap.size]? = some (.cells #[.int .i64 (N : Int), v] 24 (0, 0)) := by rw [← hW0]; exact heap_alloc_new _ _
  have HC : Hid (Calls Try.prog 26 #[grV (N : Int) v, .slice none 0 0] W0 fun e w' => e = .returned (.int .i64 0) ∧ Below W0.heap.size W0 w') := by
    have := checkWith_any (N : Int) (zE E) v W0 (hv.below b0)
    rw [hc] at this
    exact this
  have HN : Hid (∀ Y, Below w.heap.size w Y → Calls Try.prog 30 #[grV (N : Int) v] Y fun e w' => ∃ g' V', e = .returned (.slice (some ⟨g', 0, none⟩) N N) ∧ Rws g' N (ndF N E) V' w' ∧ Below Y.heap.size Y w') := fun Y bY => needsOf_any N (by omega) E hE (by omega) v Y (hv.below bY)
  have HS : Hid (w.heap.size < W0.heap.size ∧ Below w.heap.size w W0 ∧ W0.heap[w.heap.size]? = some (.cells #[.int .i64 (N : Int), v] 24 (0, 0)) ∧ N ≤ 8192 ∧ ∀ e ∈ E, e.1 < N ∧ e.2 < N) := ⟨(Array.getElem?_eq_some_iff.1 r0).1, b0, r0, hN, hE⟩
  have l0 : W0.cell? ⟨w.heap.size, 0, none⟩ = some (.int .i64 (N : Int)) := (cell_of_row _ _ _ _ _ _ r0).trans rfl
  have l1 : W0.cell? ⟨w.heap.size, 1, none⟩ = some v := (cell_of_row _ _ _ _ _ _ r0).trans rfl
  unfold grV at HC HN ⊢
  clear b0 r0 hv hN hE hn hc
  go_enter Try.func23, Try.ntmps23
  go_wp2_with fail
  with_reducible refine Calls.mono HC.out ?_
  rintro en W1 ⟨rfl, b1⟩
  have H1 : Hid (Below w.heap.size w W1 ∧ W1.heap[w.heap.size]? = some (.cells #[.int .i64 (N : Int), v] 24 (0, 0))) := ⟨HS.out.2.1.trans (b1.mono HS.out.2.1.size), (b1.block _ HS.out.1).trans HS.out.2.2.1⟩
  have l2 : W1.cell? ⟨w.heap.size, 0, none⟩ = some (.int .i64 (N : Int)) := (cell_of_row _ _ _ _ _ _ H1.out.2).trans rfl
  have l3 : W1.cell? ⟨w.heap.size, 1, none⟩ = some v := (cell_of_row _ _ _ _ _ _ H1.out.2).trans rfl
  have HC2 := mkHid (HN.out W1 H1.out.1)
  clear b1 l0 l1 hW0
  go_wp2_with fail
  with_reducible refine Calls.mono HC2.out ?_
  rintro en W2 ⟨g, V, rfl, hrw, b2⟩
  have b02 := H1.out.1.trans (b2.mono H1.out.1.size)
  obtain ⟨kn, hkn⟩ : ∃ k, W2.heap.size = k := ⟨_, rfl⟩
  obtain ⟨X, hX⟩ : ∃ X, W2.alloc (.cells #[.slice (some ⟨g, 0, none⟩) N N] 60) = X := ⟨_, rfl⟩
  have bX : Below W2.heap.size W2 X := by rw [← hX]; exact (Below.refl _ W2).alloc (Nat.le_refl _) _
  have rX : X.heap[kn]? = some (.cells #[.slice (some ⟨g, 0, none⟩) N N] 60 (0, 0)) := by rw [← hX, ← hkn]; exact heap_alloc_new _ _
  have cX : X.cell? ⟨kn, 0, none⟩ = some (.slice (some ⟨g, 0, none⟩) N N) := (cell_of_row _ _ _ _ _ _ rX).trans rfl
  have b0X := b02.trans (bX.mono b02.size)
  have hrX := hrw.below bX
  have CL := least_any X hrX HS.out.2.2.2.1 (fun v _ x hx => ndF_lt v x hx) ndF_len (ndF_out HS.out.2.2.2.2) (ndF_rise N E)
  have H2 := mkHid (And.intro b0X (And.intro hrX rX))
  clear hrw b2 b02 bX rX b0X hrX l2 l3 HC2
  go_wp2_with fail
  refine CL.mono ?_
  rintro e W3 ⟨b3, m, rfl, q⟩
  obtain ⟨b0X, hrX, rX⟩ := H2.out
  have b03 := b0X.trans (b3.mono b0X.size)
  obtain ⟨ka, hka⟩ : ∃ k, W3.heap.size = k := ⟨_, rfl⟩
  obtain ⟨Y, hY⟩ : ∃ Y, W3.alloc (.cells #[.int .i64 (m : Int)] 3) = Y := ⟨_, rfl⟩
  have bY : Below W3.heap.size W3 Y := by rw [← hY]; exact (Below.refl _ W3).alloc (Nat.le_refl _) _
  have cY : Y.cell? ⟨ka, 0, none⟩ = some (.int .i64 (m : Int)) := by
    have : Y.heap[ka]? = some (.cells #[.int .i64 (m : Int)] 3 (0, 0)) := by rw [← hY, ← hka]; exact heap_alloc_new _ _
    exact (cell_of_row _ _ _ _ _ _ this).trans rfl
  have cN : Y.cell? ⟨kn, 0, none⟩ = some (.slice (some ⟨g, 0, none⟩) N N) := cell_belowX bY (cell_belowX b3 ((cell_of_row _ _ _ _ _ _ rX).trans rfl))
  have b0Y := b03.trans (bY.mono b03.size)
  rcases q with ⟨e, hno⟩ | ⟨hm, ht, hle⟩
  · have em : decide (m < N) = false := decide_eq_false (by omega)
    rw [em]
    have HE := mkHid (And.intro b0Y hno)
    clear e hno em b0X hrX rX b3 b03 bY b0Y CL cX hX
    dsimp only
    go_wp2_with fail
    go_ret2
    exact ⟨HE.out.1, .inr ⟨rfl, HE.out.2⟩⟩
  · have em : decide (m < N) = true := decide_eq_true hm
    rw [em]
    have hrY := (hrX.below b3).below bY
    obtain ⟨gv, hgv⟩ := rws_ro hrY
    have CS := shortC_any Y (g := g) (N := N) (a := m) (kb := kn) (kc := ka) (gv := gv) (F := ndF N E) (V := V) (fun x => decide (m ∈ ndF N E x)) hm (by have := HS.out.2.2.2.1; omega) (fun v _ x hx => ndF_lt v x hx) (fun v _ => by have := ndF_len (N := N) (E := E) v; have := HS.out.2.2.2.1; omega) (fun v hv => ⟨(hgv v hv).1, (hgv v hv).2.1⟩) (fun v W hv hW => cycC_any W (cell_belowX hW cN) (cell_belowX hW cY) (cell_belowX hW (hgv v hv).1) (il_bel (hgv v hv).2.1 hW) hv (by have := ndF_len (N := N) (E := E) v; have := HS.out.2.2.2.1; omega) (ndF_rise N E v))
    have HE := mkHid (And.intro b0Y (And.intro hm (And.intro ht hle)))
    unfold nOf at CS
    clear em b0X hrX rX b3 b03 bY b0Y CL cX hX hrY hgv hm ht hle
    dsimp only
    go_wp2_with fail
    refine CS.mono ?_
    rintro e W4 ⟨q1, q2⟩
    obtain ⟨b0Y, hm, ht, hle⟩ := HE.out
    rcases q2 with ⟨-, q2⟩ | ⟨t, d, L, o, c, p1, p2, p3, rfl, p4⟩
    · obtain ⟨u, ⟨d, u1⟩, u2⟩ := tg_last ht
      have := q2 d u u1
      simp [u2] at this
    · have HR := mkHid (And.intro (b0Y.trans (q1.mono b0Y.size)) (And.intro p1 (And.intro (of_decide_eq_true p2) (And.intro (fun x e (hx : Ds (ndF N E) m e x) (hmx : m ∈ ndF N E x) => by
        by_cases k : d ≤ e
        · exact k
        · have := p3 x e hx (by omega)
          simp [hmx] at this) (own_base p4 b0Y.size)))))
      clear q1 p1 p2 p3 p4 b0Y hm ht hle CS
      go_wp2_with fail
      go_ret2
      exact ⟨HR.out.1, .inl ⟨m, d, t, L, o, c, HE.out.2.1, HE.out.2.2.1, HE.out.2.2.2, HR.out.2.1, HR.out.2.2.1, HR.out.2.2.2.1, rfl, HR.out.2.2.2.2⟩⟩
end Go.Proofs.Ytibhjkmbbfgnpaa
