/- GraphSorts: the law's cycles: one of the shortest through the least node. -/
import Derived.Test.YtibhjkmbbfgnpaaJoB
import Derived.Test.YtibhjkmbbfgnpaaJaE
import Derived.Test.YtibhjkmbbfgnpaaGlP
import Derived.Test.YtibhjkmbbfgnpaaGyF
import Derived.Deep.RegionHeld3
import Derived.Deep.MidRow
namespace Go.Proofs.Ytibhjkmbbfgnpaa
open Go.RowKit GM Gl
set_option maxRecDepth 20000
theorem ndF_fits {N : Nat} {E : List (Nat × Nat)} (h : ∀ e ∈ E, e.1 < N ∧ e.2 < N) : Fits E (ndF N E) := fun a b => by
  unfold ndF trL nds
  rw [List.mem_filter, List.mem_range, decide_eq_true_iff, List.take_length, List.mem_map]
  constructor
  · intro q
    exact ⟨(h _ q).2, (a, b), List.mem_filter.2 ⟨q, by simp⟩, rfl⟩
  · rintro ⟨-, ⟨x, y⟩, q1, q2⟩
    obtain ⟨q3, q4⟩ := List.mem_filter.1 q1
    simp at q2 q4
    subst q2 q4
    exact q3
/-- The law's shortest, where c is at distance d of b. -/
theorem lshD_any {N b c d : Nat} (hN : N ≤ 1024) {E : List (Nat × Nat)} (hE : ∀ e ∈ E, e.1 < N ∧ e.2 < N) (hl : E.length ≤ 1000000) (hb : b < N) (hcN : c < N) (hd : Ds (ndF N E) b d c) (v : Value) (w : World) (hv : El v (zE E) w) :
    Calls Try.prog 14 #[grV (N : Int) v, .int .i64 (b : Int), .int .i64 (c : Int)] w fun e w' => e = .returned (.int .i64 (d : Int)) ∧ Below w.heap.size w w' := by
  refine Calls.mono (lshort_any N hN E hE hl v w hv b c hb hcN (fun d => bb E b d c) fun _ => rfl) ?_
  rintro e w' ⟨hb', ⟨d', h1, h2, h3, rfl⟩ | ⟨h1, -⟩⟩
  · have q := (bb_iff (ndF_fits hE) d' c).1 h2
    have e1 : d = d' := by
      rcases Nat.lt_trichotomy d d' with k | k | k
      · have := h3 d k
        rw [(bb_iff (ndF_fits hE) d c).2 hd.1] at this
        cases this
      · exact k
      · exact absurd q (hd.2 d' k)
    rw [e1]
    exact ⟨rfl, hb'⟩
  · obtain ⟨K, k1, k2, -⟩ := lyr_end (nd := ndF N E) (S := [b]) (N := N) (fun x hx => by rw [List.mem_singleton.1 hx]; exact hb) (fun v _ x hx => ndF_lt v x hx)
    have q := ds_lt k2 d c hd
    have := h1 d (by omega)
    rw [(bb_iff (ndF_fits hE) d c).2 hd.1] at this
    cases this
theorem ds_bound {N b c d : Nat} {E : List (Nat × Nat)} (hb : b < N) (hd : Ds (ndF N E) b d c) : d < N := by
  obtain ⟨K, k1, k2, -⟩ := lyr_end (nd := ndF N E) (S := [b]) (N := N) (fun x hx => by rw [List.mem_singleton.1 hx]; exact hb) (fun v _ x hx => ndF_lt v x hx)
  have q := ds_lt k2 d c hd
  omega
theorem wrap_id {j : Nat} (h : j < 1000000) : IntKind.i64.wrap (j : Int) = (j : Int) := by rw [IntKind.wrap_i64]; omega
theorem wrap_id2 {j : Nat} (h : j < 1000000) : wrap64 (j : Int) = (j : Int) := by unfold wrap64; omega
theorem wrap_id3 {j : Nat} (h : j < 1000000) : IntKind.i64.wrap ((j : Int) + 1) = (j : Int) + 1 := by rw [IntKind.wrap_i64]; omega
theorem sub_nat {d n : Nat} (h : d + 1 = n) (hn : n < 1000000) : wrap64 ((n : Int) - 1) = (d : Int) := by unfold wrap64; omega
theorem rem_nat {i n j : Nat} (h : (i + 1) % n = j) : ((i : Int) + 1).tmod (n : Int) = (j : Int) := by
  rw [Int.tmod_eq_emod_of_nonneg (by omega), ← h]
  exact (Int.natCast_emod (i + 1) n).symm
/-- All that the law's cycles knows. -/
structure Kz (N : Nat) (E : List (Nat × Nat)) (m d : Nat) (L : List Nat) : Prop where
  hN : N ≤ 1024
  hE : ∀ e ∈ E, e.1 < N ∧ e.2 < N
  hl : E.length ≤ 1000000
  ln : L.length = d + 1
  hd : L.getD 0 0 = m
  lt : ∀ i, i < d + 1 → L.getD i 0 < N
  ch : ∀ i, i < d + 1 → (L.getD i 0, L.getD ((i + 1) % (d + 1)) 0) ∈ E
  mN : m < N
  cy : Cy (ndF N E) m d
  le : ∀ v, v < N → TG (ndF N E) v v → m ≤ v
theorem kz_of {N m d t : Nat} {E : List (Nat × Nat)} {L : List Nat} (hN : N ≤ 1024) (hE : ∀ e ∈ E, e.1 < N ∧ e.2 < N) (hl : E.length ≤ 1000000) (hm : m < N) (hle : ∀ v, v < N → TG (ndF N E) v v → m ≤ v) (hP : Pth (ndF N E) m t d L) (ht : m ∈ ndF N E t) (hmin : ∀ x e, Ds (ndF N E) m e x → m ∈ ndF N E x → d ≤ e) : Kz N E m d L := by
  have ch : ∀ i, i < d + 1 → (L.getD i 0, L.getD ((i + 1) % (d + 1)) 0) ∈ E := fun i hi => by
    rw [ndF_fits hE]
    by_cases k : i < d
    · rw [Nat.mod_eq_of_lt (by omega)]
      exact hP.ch.get i (by rw [hP.ln]; omega)
    · obtain rfl : i = d := by omega
      rw [Nat.mod_self, hP.tl, hP.hd]
      exact ht
  exact ⟨hN, hE, hl, hP.ln, hP.hd, fun i hi => (hE _ (ch i hi)).1, ch, hm, ⟨⟨t, hP.ds, ht⟩, hmin⟩, hle⟩
/-- What lies while cycles is at work. -/
structure Qz (w : World) (kG gM N : Nat) (ev : Value) (E : List (Nat × Nat)) (gc off n : Nat) (L : List Nat) (X : World) : Prop where
  bel : Below w.heap.size w X
  k : w.heap.size ≤ kG
  g : X.heap[kG]? = some (.cells #[.int .i64 (N : Int), ev] 24 (0, 0))
  el : El ev (zE E) X
  c : ∀ j, j < n → X.cell? ⟨gc, off + j, none⟩ = some (.int .i64 ((L.getD j 0 : Nat) : Int))
  o : ∀ i, i < N → X.cell? ⟨gM, i, none⟩ = some (.slice (some ⟨gM + 1 + i, 0, none⟩) N N)
  r : ∀ i j, i < N → j < N → X.cell? ⟨gM + 1 + i, j, none⟩ = some (.bool (pb E N i j))
theorem Qz.below {w X Y : World} {kG gM N gc off n : Nat} {ev : Value} {E : List (Nat × Nat)} {L : List Nat} (h : Qz w kG gM N ev E gc off n L X) (hb : Below X.heap.size X Y) : Qz w kG gM N ev E gc off n L Y :=
  ⟨h.bel.trans (hb.mono h.bel.size), h.k, (hb.block _ (Array.getElem?_eq_some_iff.1 h.g).1).trans h.g, h.el.below hb, fun j hj => cell_belowX hb (h.c j hj), fun i hi => cell_belowX hb (h.o i hi), fun i j hi hj => cell_belowX hb (h.r i j hi hj)⟩
theorem Qz.g0 {w X : World} {kG gM N gc off n : Nat} {ev : Value} {E : List (Nat × Nat)} {L : List Nat} (h : Qz w kG gM N ev E gc off n L X) : X.cell? ⟨kG, 0, none⟩ = some (.int .i64 (N : Int)) := (cell_of_row _ _ _ _ _ _ h.g).trans rfl
theorem Qz.g1 {w X : World} {kG gM N gc off n : Nat} {ev : Value} {E : List (Nat × Nat)} {L : List Nat} (h : Qz w kG gM N ev E gc off n L X) : X.cell? ⟨kG, 1, none⟩ = some ev := (cell_of_row _ _ _ _ _ _ h.g).trans rfl
set_option maxRecDepth 100000 in
set_option maxHeartbeats 6400000 in
theorem cycles_any {N m d gc cc : Nat} {oc : Option Addr} {E : List (Nat × Nat)} {L : List Nat} (hz : Kz N E m d L) (v : Value) (w : World) (hv : El v (zE E) w) (hc : Il gc (.slice oc (d + 1) cc) L w) :
    Calls Try.prog 24 #[grV (N : Int) v, .slice oc (d + 1) cc] w fun e w' => e = .returned (.bool true) ∧ Below w.heap.size w w' := by
  obtain ⟨W0, hW0⟩ : ∃ W0, w.alloc (.cells #[.int .i64 (N : Int), v] 24) = W0 := ⟨_, rfl⟩
  have b0 : Below w.heap.size w W0 := by rw [← hW0]; exact (Below.refl _ w).alloc (Nat.le_refl _) _
  have r0 : W0.heap[w.heap.size]? = some (.cells #[.int .i64 (N : Int), v] 24 (0, 0)) := by rw [← hW0]; exact heap_alloc_new _ _
  have l0 : W0.cell? ⟨w.heap.size, 0, none⟩ = some (.int .i64 (N : Int)) := (cell_of_row _ _ _ _ _ _ r0).trans rfl
  have l1 : W0.cell? ⟨w.heap.size, 1, none⟩ = some v := (cell_of_row _ _ _ _ _ _ r0).trans rfl
  have CL := leads_any N hz.hN E hz.hE hz.hl v W0 (hv.below b0)
  obtain ⟨oc', cc', e, h1⟩ := hc
  rw [hz.ln] at e h1
  injection e with e1 e2 e3
  subst e1 e3
  obtain ⟨off, rfl, hgc, hcc⟩ := h1 (by omega)
  obtain ⟨oe, ce, hvf, -, -⟩ := hv.form
  rw [zE_len] at hvf
  subst hvf
  obtain ⟨kG, hkG⟩ : ∃ k, w.heap.size = k := ⟨_, rfl⟩
  obtain ⟨n, hn⟩ : ∃ n, d + 1 = n := ⟨_, rfl⟩
  obtain ⟨ne, hne⟩ : ∃ n, E.length = n := ⟨_, rfl⟩
  have HQ := mkHid (And.intro hz (And.intro hv (And.intro hcc (And.intro hn (And.intro b0 (And.intro r0 (And.intro hkG hne)))))))
  have n0 : ¬ ((n : Int) = 0) := by omega
  have n1 : ((n : Int) == 0) = false := by simpa using n0
  rw [hkG] at l0 l1
  unfold grV at CL ⊢
  rw [hne] at CL l1 hW0 ⊢
  rw [hn]
  clear hz hv h1 hgc hcc b0 r0 hn hne
  go_enter Try.func24, Try.ntmps24
  go_wp2_with fail
  try rw [hkG]
  try rw [hW0]
  refine CL.mono ?_
  rintro e W1 ⟨gM, C, rfl, hx⟩
  have HI0 : Hid (Qz w kG gM N (.slice oe ne ce) E gc off n L W1) := by
    obtain ⟨hz, hv, hcc, hn, b0, r0, hkG, hne⟩ := HQ.out
    have b01 := b0.trans (hx.bel.mono b0.size)
    refine ⟨b01, by omega, ?_, ?_, fun j hj => cell_belowX b01 (hcc j (by omega)), fun i hi => ?_, fun i j hi hj => ?_⟩
    · rw [← hkG, ← hne]; exact (hx.bel.block _ (Array.getElem?_eq_some_iff.1 r0).1).trans r0
    · rw [← hne]; exact hv.below b01
    · rw [cell_of_row _ _ _ _ _ _ hx.out, oc_get _ _ _ i hi, if_pos hi]
    · exact (cell_of_row _ _ _ _ _ _ (hx.row i hi)).trans (bk_get _ _ j hj)
  clear hx CL hW0 l0 l1
  go_wp2_with fail
  go_loopw [6] (fun iv wr => ∃ i : Nat, iv = .int .i64 (i : Int) ∧ i ≤ n ∧ Hid (Qz w kG gM N (.slice oe ne ce) E gc off n L wr)) (fun iv _ => n - (intOf iv).toNat)
  case atStart => exact ⟨0, rfl, Nat.zero_le _, HI0⟩
  case round =>
    obtain ⟨i, rfl, hi, HI⟩ := hrel
    by_cases hlt : i < n
    · obtain ⟨hz, hv, hcc, hn, b0, r0, hkG, hne⟩ := HQ.out
      have q := HI.out
      obtain ⟨x, hx⟩ : ∃ x, L.getD i 0 = x := ⟨_, rfl⟩
      obtain ⟨j, hj⟩ : ∃ j, (i + 1) % n = j := ⟨_, rfl⟩
      obtain ⟨y, hy⟩ : ∃ y, L.getD j 0 = y := ⟨_, rfl⟩
      have hjn : j < n := by rw [← hj]; exact Nat.mod_lt _ (by omega)
      have hxN : x < N := by rw [← hx]; exact hz.lt i (by omega)
      have hE : (x, y) ∈ E := by
        have := hz.ch i (by omega)
        rw [hn, hj, hx, hy] at this
        exact this
      have hnl : n < 1000000 := by
        obtain ⟨t, t1, -⟩ := hz.cy.at'
        have := ds_bound hz.mN t1
        have := hz.hN
        omega
      have ci := q.c i hlt
      have cj := q.c j hjn
      rw [hx] at ci
      rw [hy] at cj
      have CE : ∀ m, Calls Try.prog 13 #[grV (N : Int) (.slice oe ne ce), .int .i64 (x : Int), .int .i64 (y : Int)] (wr.drewN m) fun e w' => e = .returned (.bool true) ∧ Below (wr.drewN m).heap.size (wr.drewN m) w' := fun m => by
        have := edge_any (N : Int) E hz.hl (.slice oe ne ce) (wr.drewN m) (q.el.below (bel_drP wr m)) x y
        rw [decide_eq_true hE] at this
        exact this
      unfold grV at CE
      have q0 := q.g0
      have q1 := q.g1
      have g0 : ∀ k, (wr.drewN k).cell? ⟨kG, 0, none⟩ = some (.int .i64 (N : Int)) := fun _ => q0
      have g1 : ∀ k, (wr.drewN k).cell? ⟨kG, 1, none⟩ = some (.slice oe ne ce) := fun _ => q1
      have gi : ∀ k, (wr.drewN k).cell? ⟨gc, off + i, none⟩ = some (.int .i64 (x : Int)) := fun _ => ci
      have gj : ∀ k, (wr.drewN k).cell? ⟨gc, off + j, none⟩ = some (.int .i64 (y : Int)) := fun _ => cj
      have dg0 : wr.drew.cell? ⟨kG, 0, none⟩ = some (.int .i64 (N : Int)) := q0
      have dg1 : wr.drew.cell? ⟨kG, 1, none⟩ = some (.slice oe ne ce) := q1
      have dgi : wr.drew.cell? ⟨gc, off + i, none⟩ = some (.int .i64 (x : Int)) := ci
      have dgj : wr.drew.cell? ⟨gc, off + j, none⟩ = some (.int .i64 (y : Int)) := cj
      have i0 := geI i
      have i1 := ltI hlt
      have j0 := geI j
      have j1 := ltI hjn
      have x0 := geI x
      have xn : ¬ ((x : Int) < 0) := by omega
      have xN : ¬ ((N : Int) ≤ (x : Int)) := by omega
      have dxn : decide ((x : Int) < 0) = false := decide_eq_false xn
      have dxN : decide ((N : Int) ≤ (x : Int)) = false := decide_eq_false xN
      have wi := wrapI i (by omega)
      have nn0 : ¬ ((n : Int) = 0) := by omega
      have wm : ((i : Int) + 1).tmod (n : Int) = (j : Int) := rem_nat hj
      have nNx : ¬ N ≤ x := by omega
      have nzN : ¬ n = 0 := by omega
      have wj := wrap_id (Nat.lt_trans hjn hnl)
      have wj2 := wrap_id2 (Nat.lt_trans hjn hnl)
      have wi3 := wrap_id3 (Nat.lt_trans hlt hnl)
      have dNx : decide (N ≤ x) = false := decide_eq_false nNx
      have HS : Hid (∀ m w8, Below (wr.drewN m).heap.size (wr.drewN m) w8 → w8.cell? ⟨kG, 0, none⟩ = some (.int .i64 (N : Int)) ∧ w8.cell? ⟨kG, 1, none⟩ = some (.slice oe ne ce) ∧ w8.cell? ⟨gc, off + i, none⟩ = some (.int .i64 (x : Int)) ∧ w8.cell? ⟨gc, off + j, none⟩ = some (.int .i64 (y : Int)) ∧ Below wr.heap.size wr w8) := fun m w8 h8 =>
        ⟨cell_belowX h8 (g0 m), cell_belowX h8 (g1 m), cell_belowX h8 (gi m), cell_belowX h8 (gj m), (bel_drP wr m).trans (h8.mono (bel_drP wr m).size)⟩
      have HS1 : Hid (∀ w8, Below wr.drew.heap.size wr.drew w8 → w8.cell? ⟨kG, 0, none⟩ = some (.int .i64 (N : Int)) ∧ w8.cell? ⟨kG, 1, none⟩ = some (.slice oe ne ce) ∧ w8.cell? ⟨gc, off + i, none⟩ = some (.int .i64 (x : Int)) ∧ w8.cell? ⟨gc, off + j, none⟩ = some (.int .i64 (y : Int)) ∧ Below wr.heap.size wr w8) := fun w8 h8 => HS.out 1 w8 h8
      have CE1 : Calls Try.prog 13 #[.agg #[.int .i64 (N : Int), .slice oe ne ce], .int .i64 (x : Int), .int .i64 (y : Int)] wr.drew fun e w' => e = .returned (.bool true) ∧ Below wr.drew.heap.size wr.drew w' := CE 1
      have bd : ∀ m, Below wr.heap.size wr (wr.drewN m) := bel_drP wr
      have bd1 : Below wr.heap.size wr wr.drew := bel_drP wr 1
      have HN := mkHid (And.intro q hlt)
      clear hz hv hcc hn b0 r0 hkG hne q hx hj hy hjn hxN hE hnl ci cj q0 q1 hlt HI
      go_wp2_with fail
      go_region_held3 (fun w' => w'.cell? ⟨kG, 0, none⟩ = some (.int .i64 (N : Int)) ∧ w'.cell? ⟨kG, 1, none⟩ = some (.slice oe ne ce) ∧ w'.cell? ⟨gc, off + i, none⟩ = some (.int .i64 (x : Int)) ∧ w'.cell? ⟨gc, off + j, none⟩ = some (.int .i64 (y : Int)) ∧ Below wr.heap.size wr w')
        (first | assumption | exact ⟨g0 _, g1 _, gi _, gj _, bd _⟩ | exact ⟨dg0, dg1, dgi, dgj, bd1⟩ | exact HS.out _ _ (by assumption) | go_keep)
        (first
          | (go_at_call 13; with_reducible refine Calls.mono CE1 ?_; rintro e w8 ⟨rfl, b8⟩; have hS8 := HS1.out w8 b8))
      rename_i hHeld
      have HB8 := mkHid (HN.out.1.below hHeld.2.2.2.2)
      clear hHeld hS8 b8 CE CE1 HS HS1 g0 g1 gi gj dg0 dg1 dgi dgj bd bd1
      go_wp2_with fail
      exact ⟨⟨i + 1, by first | rfl | (rw [wi]; rfl), HN.out.2, HB8⟩, by first | exact measI _ _ HN.out.2 | (rw [wi]; exact measI _ _ HN.out.2)⟩
    · have i1 := nltI hlt
      have HW := HI
      clear HI hi hlt HI0
      go_wp2_with fail
      go_loopw [8, 7] (fun iv mv wr => ∃ (i : Nat) (z : Int), iv = .int .i64 (i : Int) ∧ mv = .int .i64 z ∧ i ≤ ne ∧ Hid (Qz w kG gM N (.slice oe ne ce) E gc off n L wr ∧ Bst (ndF N E) E m i z)) (fun iv _ _ => ne - (intOf iv).toNat)
      case atStart => exact ⟨0, -1, rfl, rfl, Nat.zero_le _, HW.out, bst_zero _ _ _⟩
      case round =>
        obtain ⟨i, z, rfl, rfl, hi, HI⟩ := hrel
        by_cases hlt : i < ne
        · obtain ⟨hz, hv, hcc, hn, b0, r0, hkG, hne⟩ := HQ.out
          obtain ⟨q, hb⟩ := HI.out
          obtain ⟨a, b, hab⟩ : ∃ a b, E[i]? = some (a, b) := ⟨_, _, List.getElem?_eq_getElem (by omega)⟩
          obtain ⟨oe', ce', hvf, -, ho⟩ := q.el.form
          rw [zE_len, hne] at hvf ho
          injection hvf with f1 f2 f3
          subst f1 f3
          obtain ⟨eb, eo, rfl, q2, q3⟩ := ho (by omega)
          have c1 := (q3 i hlt).1
          have c2 := (q3 i hlt).2
          rw [zE_get E i a b hab] at c1 c2
          have c1' : wr.cell? ⟨eb, eo + i * 2, none⟩ = some (.int .i64 (a : Int)) := c1
          have c2' : wr.cell? ⟨eb, eo + i * 2 + 1, none⟩ = some (.int .i64 (b : Int)) := c2
          have haE := List.mem_of_getElem? hab
          have haN := (hz.hE _ haE).1
          have hbN := (hz.hE _ haE).2
          have k0 := q.c 0 (by omega)
          rw [hz.hd, Nat.add_zero] at k0
          have g0 := q.g0
          have g1 := q.g1
          have go := q.o b hbN
          have gr := q.r b a hbN haN
          have hpb := pb_iff (ndF_fits hz.hE) (fun x y hy => ndF_lt x y hy) b a
          have i0 := geI i
          have i1 := ltI hlt
          have a0 := geI a
          have a1 := ltI haN
          have b0' := geI b
          have b1 := ltI hbN
          have nn0 : (0 : Int) < (n : Int) := by omega
          have wi := wrapI i (by have := hz.hl; omega)
          have hba : b ∈ ndF N E a := (ndF_fits hz.hE a b).1 haE
          cases hp : pb E N b a with
          | false =>
            rw [hp] at gr
            have hno : ¬ (a = m ∧ ∃ k, Ds (ndF N E) b k m) := fun ⟨e1, k, e2⟩ => by
              have := hpb.2 (reach_iff.2 ⟨k, by rw [e1]; exact e2.1⟩)
              rw [hp] at this
              cases this
            have HN := mkHid (And.intro q (And.intro (hb.skip hab hno) hlt))
            clear hz hv hcc hn b0 r0 hkG hne q hb hab ho q2 q3 c1 c2 haE haN hbN hpb hlt hba hno hp HI hi
            by_cases ham : a = m
            · subst ham
              go_wp2_with fail
              exact ⟨⟨i + 1, z, by first | rfl | (rw [wi]; rfl), rfl, HN.out.2.2, HN.out.1, HN.out.2.1⟩, by first | exact measI _ _ HN.out.2.2 | (rw [wi]; exact measI _ _ HN.out.2.2)⟩
            · have ham2 : ¬ ((a : Int) = (m : Int)) := by omega
              have ham3 : ((a : Int) == (m : Int)) = false := by simpa using ham2
              go_wp2_with fail
              exact ⟨⟨i + 1, z, by first | rfl | (rw [wi]; rfl), rfl, HN.out.2.2, HN.out.1, HN.out.2.1⟩, by first | exact measI _ _ HN.out.2.2 | (rw [wi]; exact measI _ _ HN.out.2.2)⟩
          | true =>
            rw [hp] at gr
            have hma : m ≤ a := hz.le a haN (tg_of hba (reach_iff.1 (hpb.1 hp)))
            have nam : ¬ ((a : Int) < (m : Int)) := by omega
            have nam2 : ¬ a < m := by omega
            by_cases ham : a = m
            · obtain ⟨k, hk⟩ : ∃ k, Ds (ndF N E) b k a := by
                obtain ⟨e, he⟩ := reach_iff.1 (hpb.1 hp)
                obtain ⟨k, -, hk⟩ := he.ds
                exact ⟨k, hk⟩
              subst ham
              have CS := lshD_any hz.hN hz.hE hz.hl hbN haN hk (.slice (some ⟨eb, eo, none⟩) ne ce) wr q.el
              have HS := mkHid (And.intro q (And.intro hb (And.intro hab (And.intro hk hlt))))
              unfold grV at CS
              clear hz hv hcc hn b0 r0 hkG hne q hb hab ho q2 q3 c1 c2 haE haN hbN hpb hlt hba hp hk HI hi
              go_wp2_with fail
              refine CS.mono ?_
              rintro e w8 ⟨rfl, b8⟩
              obtain ⟨q, hb, hab, hk, hlt⟩ := HS.out
              have q8 := q.below b8
              by_cases z0 : z < 0
              · have HN := mkHid (And.intro q8 (And.intro (hb.new hab rfl hk (.inl z0)) hlt))
                clear q hb hab hk hlt q8 b8 CS HS
                go_wp2_with fail
                exact ⟨⟨i + 1, k, by first | rfl | (rw [wi]; rfl), rfl, HN.out.2.2, HN.out.1, HN.out.2.1⟩, by first | exact measI _ _ HN.out.2.2 | (rw [wi]; exact measI _ _ HN.out.2.2)⟩
              · by_cases kz : (k : Int) < z
                · have HN := mkHid (And.intro q8 (And.intro (hb.new hab rfl hk (.inr kz)) hlt))
                  clear q hb hab hk hlt q8 b8 CS HS
                  go_wp2_with fail
                  exact ⟨⟨i + 1, k, by first | rfl | (rw [wi]; rfl), rfl, HN.out.2.2, HN.out.1, HN.out.2.1⟩, by first | exact measI _ _ HN.out.2.2 | (rw [wi]; exact measI _ _ HN.out.2.2)⟩
                · have HN := mkHid (And.intro q8 (And.intro (hb.stay hab hk z0 kz) hlt))
                  clear q hb hab hk hlt q8 b8 CS HS
                  go_wp2_with fail
                  exact ⟨⟨i + 1, z, by first | rfl | (rw [wi]; rfl), rfl, HN.out.2.2, HN.out.1, HN.out.2.1⟩, by first | exact measI _ _ HN.out.2.2 | (rw [wi]; exact measI _ _ HN.out.2.2)⟩
            · have HN := mkHid (And.intro q (And.intro (hb.skip hab fun ⟨e1, _⟩ => ham e1) hlt))
              have ham2 : ¬ ((a : Int) = (m : Int)) := by omega
              have ham3 : ((a : Int) == (m : Int)) = false := by simpa using ham2
              clear hz hv hcc hn b0 r0 hkG hne q hb hab ho q2 q3 c1 c2 haE haN hbN hpb hlt hba hp HI hi hma
              go_wp2_with fail
              exact ⟨⟨i + 1, z, by first | rfl | (rw [wi]; rfl), rfl, HN.out.2.2, HN.out.1, HN.out.2.1⟩, by first | exact measI _ _ HN.out.2.2 | (rw [wi]; exact measI _ _ HN.out.2.2)⟩
        · have i1 := nltI hlt
          obtain ⟨hz, hv, hcc, hn, b0, r0, hkG, hne⟩ := HQ.out
          obtain ⟨q, hb⟩ := HI.out
          rw [eqI hi hlt, ← hne] at hb
          have ez := hb.done (ndF_fits hz.hE) hz.cy
          subst ez
          have HN := mkHid q.bel
          have g0 := q.g0
          have g1 := q.g1
          have w1 : wrap64 ((n : Int) - 1) = (d : Int) := sub_nat hn (by
            obtain ⟨t, t1, -⟩ := hz.cy.at'
            have := ds_bound hz.mN t1
            have := hz.hN
            omega)
          clear hz hv hcc hn b0 r0 hkG hne q hb hi hlt HI
          go_wp2_with fail
          go_ret
          have q := HN.out
          rw [hkG] at q
          exact ⟨rfl, q⟩
end Go.Proofs.Ytibhjkmbbfgnpaa
