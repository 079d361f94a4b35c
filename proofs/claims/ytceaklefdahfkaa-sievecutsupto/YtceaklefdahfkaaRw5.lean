/- The sieve's rewriter: take. -/
import Derived.Test.YtceaklefdahfkaaRw4
namespace Go.Proofs.Ytceaklefdahfkaa
open Go.RowKit
theorem sgk (a b c d tv : Value) (f : Int) (K : List Nat) (dn : Bool) (j : Nat) (hj : j < K.length) : (a :: b :: c :: d :: rX tv f K dn).toArray[6 + j]? = some (.int .u8 ((K.getD j 0 : Nat) : Int)) := by
  rw [Nat.add_comm]
  simp [rX, List.getElem?_append, hj]
theorem ss5 (a b c d tv v : Value) (f : Int) (K : List Nat) (dn : Bool) : (a :: b :: c :: d :: rX tv f K dn).toArray.setIfInBounds 5 v = (a :: b :: c :: d :: tv :: v :: (K.map (fun (x : Nat) => Value.int .u8 (x : Int)) ++ [.bool dn])).toArray := by simp [rX]
theorem rX_len (a b c d tv : Value) (f : Int) (K : List Nat) (dn : Bool) (h : K.length = 63) : (a :: b :: c :: d :: rX tv f K dn).toArray.size = 70 := by simp [rX, h]
/-- What holds in take's loop. -/
def wr0_inv (gr gt s' h' N q B0 B2 n : Nat) (T : List ByteArray) (m : Nat) (tv hv v : Value) (f : Int) (l K : List Nat) (H : List (Int × Int)) (w wr : World) (k pl : Nat) : Prop :=
  wr.ownsRow B2 5 1 v N (ik .u8 (puts T q l (H.take k))).toList ∧ wr.ownsRow B0 40 2 hv H.length (hc H) ∧ But gr w wr ∧ B2 ≤ wr.heap.size ∧ Rwt gr gt s' (n + pl) h' tv (frN f m (H.take k)) K wr
theorem own_slice {w : World} {B e n s : Nat} {v : Value} {xs : List Value} (h : w.ownsRow B e s v n xs) (hn : 0 < n) : ∃ g cap cur, v = .slice (some ⟨g, 0, none⟩) n cap ∧ B ≤ g ∧ w.heap[g]? = some (.cells cur e (0, 0)) ∧ n ≤ cap := by
  obtain ⟨_, ⟨_, h2⟩ | ⟨g, cap, cur, rfl, h3, h4, h5, _⟩⟩ := h
  · omega
  · exact ⟨g, cap, cur, rfl, h3, h4, h5⟩
/-- One hit more in take's loop. -/
theorem tk_step (H : List (Int × Int)) (gr gt s' h' N q B0 B2 n : Nat) (T : List ByteArray) (m : Nat) (hm0 : 0 < H.length → 0 < m) (hT : ∀ s ∈ T, s.size = m) (tv hv v : Value) (f : Int) (l K : List Nat) (w wr : World) (k pl : Nat) (hI : wr0_inv gr gt s' h' N q B0 B2 n T m tv hv v f l K H w wr k pl) (hk : k < H.length)
    (hin : ∀ x ∈ H, Hin q N m T.length x) (hNq : q + N ≤ 1152921504606846976) (hTv : St tv T w) (hTg : tv.ownBlock ≠ some gr) (gz : gr < w.heap.size) (hL : ∀ k, hv.ownBlock = some k → k < B2) (hB0 : w.heap.size ≤ B0) :
    ∃ (hb hcp gT c i kk o bT offT cT F : Nat) (tw : ByteArray) (f0 : Int), hv = .slice (some ⟨hb, 0, none⟩) H.length hcp ∧ v = .slice (some ⟨gT, 0, none⟩) N c ∧ tv = .slice (some ⟨bT, offT, none⟩) T.length cT ∧ kk < T.length ∧ o < N ∧ N ≤ c ∧ IntKind.i64.wrap ((i : Int) - (q : Int)) = (o : Int) ∧ ((i : Int) + (tw.size : Int) = (F : Int)) ∧ (F : Int) < 9223372036854775808 ∧
      wr.cell? ⟨hb, k * 2, none⟩ = some (.int .i64 (i : Int)) ∧ wr.cell? ⟨hb, k * 2 + 1, none⟩ = some (.int .i64 (kk : Int)) ∧
      (wr.alloc (.cells #[.int .i64 (i : Int), .int .i64 (kk : Int)] 40)).drew.cell? ⟨wr.heap.size, 0, none⟩ = some (.int .i64 (i : Int)) ∧ (wr.alloc (.cells #[.int .i64 (i : Int), .int .i64 (kk : Int)] 40)).drew.cell? ⟨wr.heap.size, 1, none⟩ = some (.int .i64 (kk : Int)) ∧
      (wr.alloc (.cells #[.int .i64 (i : Int), .int .i64 (kk : Int)] 40)).drew.cell? ⟨gr, 4, none⟩ = some tv ∧ (wr.alloc (.cells #[.int .i64 (i : Int), .int .i64 (kk : Int)] 40)).drew.cell? ⟨bT, offT + kk, none⟩ = some (.string tw) ∧
      ∃ W4, (cpS 3 #[.slice (some ⟨gT, o, none⟩) (N - o) (c - o), .string tw]).run Try.prog (wr.alloc (.cells #[.int .i64 (i : Int), .int .i64 (kk : Int)] 40)).drew = .ok (goInt tw.size) W4 ∧
        W4.drew.cell? ⟨wr.heap.size, 0, none⟩ = some (.int .i64 (i : Int)) ∧ W4.drew.cell? ⟨wr.heap.size, 1, none⟩ = some (.int .i64 (kk : Int)) ∧ W4.drew.cell? ⟨gr, 4, none⟩ = some tv ∧ W4.drew.cell? ⟨bT, offT + kk, none⟩ = some (.string tw) ∧
        W4.drew.cell? ⟨gr, 5, none⟩ = some (.int .i64 f0) ∧ W4.drew.frozen? ⟨gr, 5, none⟩ = false ∧ wr0_inv gr gt s' h' N q B0 B2 n T m tv hv v f l K H w (W4.drew.setCell ⟨gr, 5, none⟩ (.int .i64 (F : Int))) (k + 1) pl := by
  have hm1 := hm0 (by omega)
  obtain ⟨i1, i2, i3, i4, i5⟩ := hI
  have hx : H.getD k (0, 0) = H[k] := by simp [List.getD, hk]
  obtain ⟨i, kk, hik, n1, n2, n3⟩ := hin (H.getD k (0, 0)) (by rw [hx]; exact List.getElem_mem hk)
  obtain ⟨gT, c, curT, rfl, gT0, rT, hNc⟩ := own_slice i1 (by omega)
  obtain ⟨hb, hcp, curH, rfl, hb0, rH, _⟩ := own_slice i2 (by omega)
  have hbB := hL hb rfl
  obtain ⟨bT, offT, cT, rfl, q2, q3, q4, q5⟩ : ∃ b off cap, tv = .slice (some ⟨b, off, none⟩) T.length cap ∧ T.length ≤ cap ∧ cap ≤ maxLen ∧ b < w.heap.size ∧ ∀ (j : Nat) s, T[j]? = some s → w.cell? ⟨b, off + j, none⟩ = some (.string s) := by
    rcases hTv with ⟨_, h⟩ | h
    · rw [h] at n3; simp at n3
    · exact h
  have hbTg : bT ≠ gr := fun e => hTg (by rw [e]; rfl)
  have hsz : (txt T kk).size = m := hT _ (by rw [txt_eq n3]; exact List.getElem_mem n3)
  obtain ⟨hHl, _⟩ := hl_own i2
  have hcells : wr.cell? ⟨hb, k * 2, none⟩ = some (.int .i64 (i : Int)) ∧ wr.cell? ⟨hb, k * 2 + 1, none⟩ = some (.int .i64 (kk : Int)) := by
    rcases hHl with ⟨h, _⟩ | ⟨b', off', cap', h, _, _, _, h6⟩
    · cases h
    · have h7 := h6 k hk
      rw [hik] at h7
      cases h
      rw [Nat.zero_add] at h7
      exact h7
  obtain ⟨Wa, hWa⟩ : ∃ Wa, (wr.alloc (.cells #[.int .i64 (i : Int), .int .i64 (kk : Int)] 40)).drew = Wa := ⟨_, rfl⟩
  have zA : Wa.heap.size = wr.heap.size + 1 := by rw [← hWa]; show (wr.alloc _).heap.size = _; simp
  have rA : Wa.heap[wr.heap.size]? = some (.cells #[.int .i64 (i : Int), .int .i64 (kk : Int)] 40 (0, 0)) := by rw [← hWa]; exact heap_alloc_new wr _
  have oA : ∀ j, j < wr.heap.size → Wa.heap[j]? = wr.heap[j]? := fun j hj => by rw [← hWa]; exact heap_alloc_old _ _ (h := hj)
  have fA : Wa.os = wr.os ∧ Wa.tape = wr.tape ∧ Wa.output = wr.output := by rw [← hWa]; exact ⟨rfl, rfl, rfl⟩
  have gTz : gT < wr.heap.size := (Array.getElem?_eq_some_iff.1 rT).1
  have grz : gr < wr.heap.size := (Array.getElem?_eq_some_iff.1 i5).1
  have bTz : bT < wr.heap.size := by have := i3.size; omega
  have iA1 : Wa.ownsRow B2 5 1 (.slice (some ⟨gT, 0, none⟩) N c) N (ik .u8 (puts T q l (H.take k))).toList := own_keep2 i1 fun j hj => by cases hj; exact oA gT gTz
  obtain ⟨W4, rc, o4, k1, k2, k3, k4, k5⟩ := run_cpO Wa 3 B2 gT N c (i - q) _ (txt T kk) iA1 (by omega)
  have rG : Wa.heap[gr]? = some (.cells (.pointer (some ⟨gt, 0, none⟩) :: .int .i32 (s' : Int) :: .int .i64 ((n + pl : Nat) : Int) :: .int .i64 (h' : Int) :: rX (.slice (some ⟨bT, offT, none⟩) T.length cT) (frN f m (H.take k)) K false).toArray 85 (0, 0)) := (oA gr grz).trans i5
  have rG4 := (k5 gr (by omega)).trans rG
  have rA4 := (k5 wr.heap.size (by omega)).trans rA
  have cT1 : Wa.cell? ⟨bT, offT + kk, none⟩ = some (.string (txt T kk)) := by
    rw [World.cell?_of_block (w := wr) (oA bT bTz), World.cell?_of_block (w := w) (i3.block bT q4 hbTg)]
    exact q5 kk _ (txt_get n3)
  have cT4 : W4.cell? ⟨bT, offT + kk, none⟩ = some (.string (txt T kk)) := (World.cell?_of_block (w := Wa) (k5 bT (by omega))).trans cT1
  refine ⟨hb, hcp, gT, c, i, kk, i - q, bT, offT, cT, i + m, txt T kk, frN f m (H.take k), rfl, rfl, rfl, n3, by omega, hNc, ?_, by rw [hsz]; omega, by omega, hcells.1, hcells.2, ?_⟩
  · rw [wi _ (by unfold I64; omega)]; omega
  rw [hWa]
  refine ⟨(cell_of_row Wa _ 0 _ _ _ rA).trans rfl, (cell_of_row Wa _ 1 _ _ _ rA).trans rfl, (cell_of_row Wa _ 4 _ _ _ rG).trans (sg4 _ _ _ _ _ _ _ _), cT1, W4, rc, (cell_of_row W4 _ 0 _ _ _ rA4).trans rfl, (cell_of_row W4 _ 1 _ _ _ rA4).trans rfl, (cell_of_row W4 _ 4 _ _ _ rG4).trans (sg4 _ _ _ _ _ _ _ _), cT4, (cell_of_row W4 _ 5 _ _ _ rG4).trans (sg5 _ _ _ _ _ _ _ _), frozen_of_row W4.drew _ _ _ _ rG4, ?_⟩
  have kO : ∀ j, j ≠ gr → (W4.drew.setCell ⟨gr, 5, none⟩ (.int .i64 ((i + m : Nat) : Int))).heap[j]? = W4.heap[j]? := fun j hj => heap_setCell_other _ _ _ _ hj
  have zs : (W4.drew.setCell ⟨gr, 5, none⟩ (.int .i64 ((i + m : Nat) : Int))).heap.size = wr.heap.size + 1 := by
    have : (W4.drew.setCell ⟨gr, 5, none⟩ (.int .i64 ((i + m : Nat) : Int))).heap.size = W4.heap.size := by simp only [World.setCell, Array.size_modify]; rfl
    omega
  refine ⟨?_, ?_, ?_, by omega, ?_⟩
  · rw [take_snocH hk, puts_snoc, hik]
    exact own_keep2 o4 fun j hj => by cases hj; exact kO gT (by omega)
  · exact own_keep2 i2 fun j hj => by
      cases hj
      rw [kO hb (by omega), k5 hb (by omega), oA hb (by have := (Array.getElem?_eq_some_iff.1 rH).1; omega)]
  · refine ⟨?_, ?_, ?_, by have := i3.size; omega, fun j hj hn => ?_⟩
    · show W4.os = _; rw [k1, fA.1, i3.os]
    · show W4.tape = _; rw [k2, fA.2.1, i3.tape]
    · show W4.output = _; rw [k3, fA.2.2, i3.output]
    · have := i3.size
      rw [kO j hn, k5 j (by omega), oA j (by omega)]
      exact i3.block j hj hn
  · rw [take_snocH hk, frN_snoc, hik]
    have := (heap_setCell_same W4.drew gr 5 _ _ (.int .i64 ((i + m : Nat) : Int)) rG4)
    rw [ss5] at this
    unfold Rwt Scg rX
    rw [this]
    simp
attribute [local go_sem ↓] toCpS toSlB
set_option maxRecDepth 100000 in
set_option maxHeartbeats 3200000 in
theorem take_any (gr gt s n h : Nat) (tv : Value) (f : Int) (K : List Nat) (hK : K.length = 63) (T : List ByteArray) (m : Nat) (H : List (Int × Int)) (hm0 : 0 < H.length → 0 < m) (hT : ∀ s ∈ T, s.size = m) (t : Tbl) (hwk : Wk t) (hwd : t.width = m) (G : Nat → Prop) (hG : Gd t G) (hs : G s) (hn : n ≤ 1125899906842624) (hh : h ≤ 63) (hhn : h ≤ n) (p : List Nat) (hpb : Byt p) (hpl : p.length ≤ 1073741824) (pv : Value) (w : World) (hR : Rwt gr gt s n h tv f K w) (ht : TabK gr gt t w) (hp : Si .u8 pv p w) (hpg : pv.ownBlock ≠ some gr) (hTv : St tv T w) (hTg : tv.ownBlock ≠ some gr)
    (hH : fnd t s n p = H) (hHr : Rg H) (hin : ∀ x ∈ H, Hin (n - h) (h + p.length) m T.length x) :
    Calls Try.prog 46 #[.pointer (some ⟨gr, 0, none⟩), pv] w fun e w' => But gr w w' ∧
      (((ovP f m H).2 = true ∧ e = .returned (.tuple #[.slice none 0 0, .slice none 0 0, .int .i64 52, .int .i64 (ovP f m H).1]) ∧ Rwd gr n h w') ∨
       ((ovP f m H).2 = false ∧ ∃ v hv, e = .returned (.tuple #[v, hv, .int .i64 0, .int .i64 0]) ∧ w'.ownsRow w.heap.size 5 1 v (h + p.length) (ik .u8 (puts T (n - h) (K.take h ++ p) H)).toList ∧ w'.ownsRow w.heap.size 40 2 hv H.length (hc H) ∧ Rwt gr gt (rn t s p) (n + p.length) (t.depths.getD (rn t s p) 0) tv (frN f m H) K w')) := by
  have c0 : w.cell? ⟨gr, 0, none⟩ = some (.pointer (some ⟨gt, 0, none⟩)) := (cell_of_row w gr 0 _ _ _ hR).trans (sg0 _ _ _ _ _)
  have c1 : w.cell? ⟨gr, 1, none⟩ = some (.int .i32 (s : Int)) := (cell_of_row w gr 1 _ _ _ hR).trans (sg1 _ _ _ _ _)
  have c2 : w.cell? ⟨gr, 2, none⟩ = some (.int .i64 (n : Int)) := (cell_of_row w gr 2 _ _ _ hR).trans (sg2 _ _ _ _ _)
  have c3 : w.cell? ⟨gr, 3, none⟩ = some (.int .i64 (h : Int)) := (cell_of_row w gr 3 _ _ _ hR).trans (sg3 _ _ _ _ _)
  have gz : gr < w.heap.size := (Array.getElem?_eq_some_iff.1 hR).1
  obtain ⟨W0, hW0⟩ : ∃ W0, w.alloc (.cells #[.pointer (some ⟨gt, 0, none⟩), .int .i32 (s : Int), .int .i64 (n : Int), .int .i64 (h : Int)] 81) = W0 := ⟨_, rfl⟩
  have b0 : Below w.heap.size w W0 := by rw [← hW0]; exact (Below.refl _ w).alloc (Nat.le_refl _) _
  have r0 : W0.heap[w.heap.size]? = some (.cells #[.pointer (some ⟨gt, 0, none⟩), .int .i32 (s : Int), .int .i64 (n : Int), .int .i64 (h : Int)] 81 (0, 0)) := by rw [← hW0]; exact heap_alloc_new w _
  have z0 : W0.heap.size = w.heap.size + 1 := by rw [← hW0]; simp
  have CF : Hid _ := feed_gen (rX tv f K false) 85 gr gt t hwk G hG s n h hs (by omega) p hpb (by omega) pv W0 ((b0.block gr gz).trans hR) (ht.keep b0.size fun j _ hj => b0.block j hj) (hp.below b0)
  rw [hH] at CF
  have HFIN : Hid (∀ W1 hv, W1.ownsRow W0.heap.size 40 2 hv H.length (hc H) → Rwt gr gt (rn t s p) (n + p.length) (t.depths.getD (rn t s p) 0) tv f K W1 → But gr W0 W1 →
      (Calls Try.prog 64 #[.pointer (some ⟨gr, 0, none⟩), hv] W1 fun e w' => e = .returned (.tuple #[.int .i64 (ovP f m H).1, .bool (ovP f m H).2]) ∧ Below W1.heap.size W1 w') ∧ W1.cell? ⟨w.heap.size, 2, none⟩ = some (.int .i64 (n : Int)) ∧ W1.cell? ⟨w.heap.size, 3, none⟩ = some (.int .i64 (h : Int))) := fun W1 hv ho hr hb => by
    have hA := (hb.block w.heap.size (by omega) (by omega)).trans r0
    have := ovl_any gr gt _ _ _ tv f K t hwk.wd H hHr hv W1 hr ((ht.keep (Nat.le_trans b0.size hb.size) fun j hj hz => (hb.block j (by omega) (by omega)).trans (b0.block j hz)).tab) (hl_own ho).1
    rw [hwd] at this
    exact ⟨this, (cell_of_row W1 _ 2 _ _ _ hA).trans rfl, (cell_of_row W1 _ 3 _ _ _ hA).trans rfl⟩
  have HT : Hid (∀ s ∈ T, s.size = m) := hT
  have HIN : Hid (∀ x ∈ H, Hin (n - h) (h + p.length) m T.length x) := hin
  have HTV : Hid (St tv T w ∧ tv.ownBlock ≠ some gr) := ⟨hTv, hTg⟩
  have HPV : Hid (Si .u8 pv p w ∧ pv.ownBlock ≠ some gr) := ⟨hp, hpg⟩
  have HB0 : Hid (Below w.heap.size w W0) := b0
  have HZ0 : Hid (W0.heap.size = w.heap.size + 1) := z0
  clear hR ht hp hpg hTv hTg hT hin hH hHr hG hs hpb b0 r0 z0 hwk hwd
  obtain ⟨s', hs'⟩ : ∃ s', s' = rn t s p := ⟨_, rfl⟩
  obtain ⟨h', hh'⟩ : ∃ h', h' = t.depths.getD s' 0 := ⟨_, rfl⟩
  rw [← hs', ← hh'] at HFIN CF ⊢
  clear hs' hh'
  go_enter Try.func46, Try.ntmps46
  go_wp2_with fail
  refine Calls.mono CF.out ?_
  rintro e W1 ⟨hv, rfl, ho1, hr1, q1, q2, q3, q4, q5⟩
  clear CF c0 c1 c2 c3 hW0
  obtain ⟨CO, ca, cb⟩ := HFIN.out W1 hv ho1 hr1 ⟨q1, q2, q3, q4, q5⟩
  have HB1 : Hid (But gr W0 W1) := ⟨q1, q2, q3, q4, q5⟩
  have HR1 : Hid (Rwt gr gt s' (n + p.length) h' tv f K W1) := hr1
  have HO1 : Hid (W1.ownsRow W0.heap.size 40 2 hv H.length (hc H)) := ho1
  have HCO : Hid _ := CO
  have HAC : Hid (W1.cell? ⟨w.heap.size, 2, none⟩ = some (.int .i64 (n : Int)) ∧ W1.cell? ⟨w.heap.size, 3, none⟩ = some (.int .i64 (h : Int))) := ⟨ca, cb⟩
  clear HFIN CO ca cb q1 q2 q3 q4 q5 hr1 ho1
  generalize hov : ovP f m H = ov2 at HCO ⊢
  obtain ⟨x, bb⟩ := ov2
  have HOV : Hid (ovP f m H = (x, bb)) := hov
  clear hov
  go_wp2_with fail
  refine Calls.mono HCO.out ?_
  rintro e W2 ⟨rfl, b2⟩
  clear HCO
  have A0z : w.heap.size < W1.heap.size := by have := HB1.out.size; have := HZ0.out; omega
  have d2 : W2.cell? ⟨w.heap.size, 2, none⟩ = some (.int .i64 (n : Int)) := (World.cell?_of_block (w := W1) (b2.block _ A0z)).trans HAC.out.1
  have d3 : W2.cell? ⟨w.heap.size, 3, none⟩ = some (.int .i64 (h : Int)) := (World.cell?_of_block (w := W1) (b2.block _ A0z)).trans HAC.out.2
  have grz : gr < W1.heap.size := by omega
  have HR2 : Hid (Rwt gr gt s' (n + p.length) h' tv f K W2) := (b2.block gr grz).trans HR1.out
  have HO2 : Hid (W2.ownsRow W0.heap.size 40 2 hv H.length (hc H)) := own_keep2 HO1.out fun k hk => b2.block k (HO1.out.lt k hk).2
  have HB2 : Hid (But gr w W2) := (but_of HB0.out).trans (HB1.out.trans (but_of b2))
  have HL2 : Hid (∀ k, hv.ownBlock = some k → k < W2.heap.size) := fun k hk => Nat.lt_of_lt_of_le (HO1.out.lt k hk).2 b2.size
  clear HR1 HO1 HAC b2 HB1
  cases bb with
  | true =>
    have CX : Hid _ := fin_any gr n h _ W2 HR2.out (rX_len _ _ _ _ _ _ _ _ hK)
    go_wp2_with fail
    refine Calls.mono CX.out ?_
    rintro e W3 ⟨rfl, k1, k2, k3, k4, k5, k6⟩
    have HE : Hid (But gr w W3 ∧ Rwd gr n h W3) := ⟨⟨k2.trans HB2.out.os, k3.trans HB2.out.tape, k4.trans HB2.out.output, by rw [k5]; exact HB2.out.size, fun j hj hn => (k6 j hn).trans (HB2.out.block j hj hn)⟩, k1⟩
    clear k1 k2 k3 k4 k5 k6 CX
    go_wp2
    go_returns
    exact ⟨HE.out.1, .inl ⟨by rw [HOV.out], by rw [HOV.out], HE.out.2⟩⟩
  | false =>
    obtain ⟨po, pc, hpo, -⟩ := HPV.out.1.form
    subst hpo
    have CC : Hid (∀ W, Below W2.heap.size W2 W → W.heap[W2.heap.size]? = some (.cells #[.slice (some ⟨gr, 6, none⟩) h 63, .slice po p.length pc] 27 (0, 0)) → Calls Try.prog 65 #[.slice (some ⟨W2.heap.size, 0, none⟩) 2 2] W fun e w' => ∃ v, e = .returned v ∧ Hid (w'.ownsRow W2.heap.size 5 1 v (h + p.length) (ik .u8 (K.take h ++ p)).toList ∧ Below W2.heap.size W2 w')) := fun W hwa hrow => by
      have gz2 : gr < W2.heap.size := by have := HB2.out.size; omega
      have hl : (K.take h).length = h := by rw [List.length_take]; omega
      have hk : Si .u8 (.slice (some ⟨gr, 6, none⟩) h 63) (K.take h) W := .inr ⟨gr, 6, 63, by rw [hl], by omega, by unfold maxLen; omega, by have := hwa.size; omega, fun j hj => by
        rw [hl] at hj
        rw [World.cell?_of_block (w := W2) (hwa.block gr gz2), cell_of_row W2 _ _ _ _ _ HR2.out, sgk _ _ _ _ _ _ _ _ _ (by omega)]
        simp [List.getD, hj]⟩
      have hp2 : Si .u8 (.slice po p.length pc) p W2 := HPV.out.1.keep HB2.out.size fun g hg hz => HB2.out.block g hz fun e => HPV.out.2 (by rw [hg, e])
      have := concat_any (K.take h) p (by omega) hpl _ _ W2.heap.size _ hrow hk (hp2.below hwa)
      rw [List.length_append, hl] at this
      exact this.mono fun e w' ⟨v, h1, h2, h3⟩ => ⟨v, h1, own_down h2 hwa.size, hwa.trans (h3.mono hwa.size)⟩
    have hh0 : (0 : Int) ≤ (h : Int) := by omega
    have hh63 : (h : Int) ≤ 63 := by omega
    go_wp2_with fail
    go_region_with ((go_at_call 65; refine Calls.mono (CC.out _ ?_ ?_) ?_; exact Below.drewN' ((Below.refl _ _).alloc (Nat.le_refl _) _) 1; exact heap_alloc_new W2 _; rintro e W3 ⟨v, rfl, HC⟩))
    clear CC
    have hz2 := HB2.out.size
    have A2z : w.heap.size < W2.heap.size := by
      rcases Nat.lt_or_ge w.heap.size W2.heap.size with h | h
      · exact h
      · simp [World.cell?, Array.getElem?_eq_none h] at d2
    have e2 : W3.cell? ⟨w.heap.size, 2, none⟩ = some (.int .i64 (n : Int)) := (World.cell?_of_block (w := W2) (HC.out.2.block _ A2z)).trans d2
    have e3 : W3.cell? ⟨w.heap.size, 3, none⟩ = some (.int .i64 (h : Int)) := (World.cell?_of_block (w := W2) (HC.out.2.block _ A2z)).trans d3
    obtain ⟨q, hq⟩ : ∃ q, q = n - h := ⟨_, rfl⟩
    obtain ⟨N, hN⟩ : ∃ N, N = h + p.length := ⟨_, rfl⟩
    have f1 : IntKind.i64.wrap ((n : Int) - (h : Int)) = (q : Int) := by rw [wi _ (by unfold I64; omega)]; omega
    have HI : Hid (wr0_inv gr gt s' h' N q W0.heap.size W2.heap.size n T m tv hv v f (K.take h ++ p) K H w W3 0 p.length) := by
      rw [← hN] at HC
      refine ⟨HC.out.1, own_keep2 HO2.out fun k hk => HC.out.2.block k (HL2.out k hk), HB2.out.trans (but_of HC.out.2), HC.out.2.size, (HC.out.2.block gr (by omega)).trans HR2.out⟩
    have HST : Hid (∀ wr k, wr0_inv gr gt s' h' N q W0.heap.size W2.heap.size n T m tv hv v f (K.take h ++ p) K H w wr k p.length → k < H.length → _) := fun wr k hI hk => tk_step H gr gt s' h' N q W0.heap.size W2.heap.size n T m hm0 HT.out tv hv v f (K.take h ++ p) K w wr k p.length hI hk (by rw [hq, hN]; exact HIN.out) (by omega) HTV.out.1 HTV.out.2 gz HL2.out (by rw [HZ0.out]; omega)
    have HFI : Hid (∀ wr, wr0_inv gr gt s' h' N q W0.heap.size W2.heap.size n T m tv hv v f (K.take h ++ p) K H w wr H.length p.length → But gr w wr ∧ wr.ownsRow w.heap.size 5 1 v (h + p.length) (ik .u8 (puts T (n - h) (K.take h ++ p) H)).toList ∧ wr.ownsRow w.heap.size 40 2 hv H.length (hc H) ∧ Rwt gr gt s' (n + p.length) h' tv (frN f m H) K wr) := fun wr ⟨i1, i2, i3, i4, i5⟩ => by
      rw [List.take_length] at i1 i5
      rw [← hq, ← hN]
      exact ⟨i3, own_down i1 (by omega), own_down i2 (by rw [HZ0.out]; omega), i5⟩
    obtain ⟨oh, ch, hoh⟩ := own_size HO2.out
    subst hoh
    have hHL : H.length ≤ 9223372036854775807 := by obtain ⟨_, _, _, h, _⟩ := (hl_own HO2.out).1.form; exact h
    rw [← hN] at HC
    obtain ⟨ov', cv, hov'⟩ := own_size HC.out.1
    subst hov'
    clear d2 d3 HR2 HO2 hq hN HC HIN HTV HT HPV HL2 HB2 HZ0 HB0 A0z grz A2z hz2 hn hhn hpl hK hm0 gz
    go_wp2_with fail
    go_loopw [55] (fun iv wr => ∃ k : Nat, iv = .int .i64 (k : Int) ∧ k ≤ H.length ∧ Hid (wr0_inv gr gt s' h' N q W0.heap.size W2.heap.size n T m tv (.slice oh H.length ch) (.slice ov' N cv) f (K.take h ++ p) K H w wr k p.length)) (fun iv _ => H.length - (intOf iv).toNat)
    case atStart => exact ⟨0, rfl, by omega, HI⟩
    case round =>
      clear HI
      obtain ⟨k, rfl, hk, HI⟩ := hrel
      by_cases hlt : k < H.length
      · have hk0 : (0 : Int) ≤ (k : Int) := by omega
        have hk1 : (k : Int) < (H.length : Int) := by omega
        obtain ⟨hb, hcp, gT, c, i, kk, o, bT, offT, cT, F, tw, f0, x1, x2, x3, n3, hoN, hNc, g1, g2, g3, x4, x5, x6, x7, x8, x9, W4, rc, y1, y2, y3, y4, y5, y6, HI2⟩ := HST.out wr k HI.out hlt
        cases x1
        cases x2
        subst x3
        have HI3 : Hid _ := HI2
        clear HI2 HST HI HFI
        have rs := run_cutC gT N cv o hoN hNc
        have hkk0 : (0 : Int) ≤ (kk : Int) := by omega
        have hkk1 : (kk : Int) < (T.length : Int) := by omega
        generalize T.length = TL at *
        go_wp2_with fail
        go_big_region
        go_wp2_with fail
        go_big_region
        go_wp2
        exact ⟨⟨k + 1, by rfl, by omega, HI3⟩, by simp only [intOf]; omega⟩
      · have hk1 : ¬ ((k : Int) < (H.length : Int)) := by omega
        have hke : k = H.length := by omega
        have HE := HFI.out wr (by have := HI.out; rw [hke] at this; exact this)
        have HEE : Hid _ := HE
        clear HE HST HI HFI
        go_wp2
        go_returns
        exact ⟨HEE.out.1, .inr ⟨by rw [HOV.out], _, _, rfl, HEE.out.2⟩⟩
end Go.Proofs.Ytceaklefdahfkaa
