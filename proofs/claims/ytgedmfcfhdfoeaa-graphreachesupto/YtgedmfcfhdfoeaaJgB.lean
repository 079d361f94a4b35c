/- Several texts in one: GvC, GvD. -/
import Derived.Test.YtgedmfcfhdfoeaaJgA
import Derived.Sort.OwnSortedInts
import Derived.Shelf.Lay
import Derived.Shelf.Slices.Reverse
import Derived.Ground.NamesProg
import Derived.Test.YtgedmfcfhdfoeaaGxD
/- Graphs searched: the way back. -/
namespace Go.Proofs.Ytgedmfcfhdfoeaa
open Go.RowKit GM
set_option maxRecDepth 20000
shelf_lay Lays.n112 Nm 112 at Try as Try.revI
theorem ik_mapR (l : List Nat) : (ik l).toList = (l.map fun n : Nat => (n : Int)).map (Value.int .i64) := by simp [ik]
/-- Reverse. -/
theorem rev_any (w : World) {B n : Nat} {v : Value} {l : List Nat} (h : w.ownsRow B 3 1 v n (ik l).toList) (hl : 0 < l.length) (hl2 : l.length < 1000000000) :
    Calls Try.prog 100 #[v] w fun e w' => e = .returned (.tuple #[]) ∧ w'.ownsRow B 3 1 v n (ik l.reverse).toList ∧ Rm.Frm (fun k => v.ownBlock = some k) w w' := by
  obtain ⟨h0, h1⟩ := h
  have hn : n = l.length := by simpa [ik] using h0.symm
  subst hn
  rcases h1 with ⟨rfl, h1⟩ | ⟨g, cap, cur, rfl, hB, hg, hnc, hcm, hcs, htk⟩
  · omega
  · rw [ik_mapR] at htk
    have hH := holds_of_blockI (ss := l.map fun n : Nat => (n : Int)) hg (by rw [List.length_map]; simpa using htk)
    have C := Any.slices_Reverse_int Try.revI g 0 cap (l.map fun n : Nat => (n : Int)) w hH (by rw [List.length_map]; omega)
    rw [List.length_map, ← List.map_reverse] at C
    refine Calls.mono C ?_
    rintro e w' ⟨rfl, m, rfl⟩
    have o := ownsRow_sortedI (w := w) (base := B) (n := m) (os := #[]) (ss := l.map fun n : Nat => (n : Int)) (ts := l.reverse.map fun n : Nat => (n : Int)) (by simp) hB hg (by simpa using hnc) hcm (by simpa using hcs)
    rw [List.length_map, Sort.grow_empty] at o
    have f := grownBy_sortedI (w := w) (g := g) (n := m) (os := #[]) ((l.reverse.map fun n : Nat => (n : Int)).toArray)
    rw [Sort.grow_empty] at f
    refine ⟨rfl, by rw [ik_mapR]; exact o, f.os, f.tape, f.output, f.size, fun k hk hx => f.block k hk (fun e => hx ?_)⟩
    exact e.symm
theorem own_one (w : World) (B x : Nat) (hB : B ≤ w.heap.size) : (w.alloc (.cells #[.int .i64 (x : Int)] 3)).ownsRow B 3 1 (.slice (some ⟨w.heap.size, 0, none⟩) 1 1) 1 (ik [x]).toList := by
  refine ⟨by simp [ik], .inr ⟨w.heap.size, 1, _, rfl, hB, heap_alloc_new _ _, Nat.le_refl _, by unfold maxLen; omega, by simp, by simp [ik]⟩⟩
theorem measBk (d i : Nat) (h : i ≤ d) : d + 1 - (i + 1) < d + 1 - i := by omega
def lnV : Value → Nat
  | .slice _ n _ => n
  | _ => 0
/-- What lies while the path is laid. -/
structure Pb (W : World) (F : Nat → List Nat) (a t d b n : Nat) (f : Nat → Option Nat) (A : List Nat) (m : Nat) (pv : Value) (v : Nat) (w : World) : Prop where
  bel : Below W.heap.size W w
  mem : v ∈ A
  wb : ∃ B, Wb F a t d v B ∧ B.length = m ∧ w.ownsRow W.heap.size 3 1 pv m (ik B).toList
section
variable {W w : World} {F : Nat → List Nat} {a t d b n m v : Nat} {f : Nat → Option Nat} {A : List Nat} {pv : Value}
/-- A step back. -/
theorem Pb.step (h : Pb W F a t d b n f A m pv v w) (hm : Mb W b n f) (hf : ∀ v, v ∈ A → v ≠ a → ∃ p d, f v = some p ∧ p ∈ A ∧ Ds F a d p ∧ Ds F a (d + 1) v ∧ v ∈ F p ∧ ∀ L, Lp F a d p L → Lp F a (d + 1) v (L ++ [v])) (hA : ∀ v, v ∈ A → v < 1000000000) (hva : v ≠ a) (hd : d < 100000000) :
    ∃ (p : Nat) (o' : Option Addr) (c' : Nat) (w' : World), (lkS (.map (some b)) (.int .i64 (v : Int)) false).run Try.prog w = .ok (.int .i64 (p : Int)) w ∧ (apI 32 #[pv, .slice (some ⟨w.heap.size, 0, none⟩) 1 1]).run Try.prog (w.alloc (.cells #[.int .i64 (p : Int)] 3)) = .ok (.slice o' (m + 1) c') w' ∧ (lkS (.map (some b)) (.int .i64 (v : Int)) false).run Try.prog w' = .ok (.int .i64 (p : Int)) w' ∧ Pb W F a t d b n f A (m + 1) (.slice o' (m + 1) c') p w' ∧ m ≤ d := by
  obtain ⟨B, h1, rfl, h2⟩ := h.wb
  obtain ⟨p, e, q1, q2, q3, q4, q5, q6⟩ := hf v h.mem hva
  have hv := hA v h.mem
  have hl := h1.lens
  have hb := hm.lt
  obtain ⟨v', w', r1, r2, r3, r4⟩ := run_apI w W.heap.size B.length 32 pv B p h2 (by omega) h.bel.size
  obtain ⟨o', c', rfl⟩ := own_size r2
  have b2 : Below W.heap.size w w' := by
    have hz : w.heap.size ≤ w'.heap.size := by have := r3.size; simp at this; omega
    refine ⟨r3.os, r3.tape, r3.output, hz, fun k hk => grown_oldR r3 k (by have := h.bel.size; omega) (fun e => ?_)⟩
    have := (h2.lt k e).1
    omega
  have b1 := h.bel.trans b2
  have m1 := hm.keep (h.bel.block b hb)
  have m2 := hm.keep (b1.block b hb)
  exact ⟨p, o', c', w', m1.get v (by omega) q1, r1, m2.get v (by omega) q1, ⟨b1, q2, B ++ [p], h1.step q5 q3 q4 q6, by simp, r2⟩, hl.2.2 hva⟩
end
attribute [local go_sem ↓] toApI toLkS
set_option maxRecDepth 100000 in
set_option maxHeartbeats 3200000 in
theorem back_any (w : World) {F : Nat → List Nat} {a t d b n : Nat} {f : Nat → Option Nat} {A : List Nat} (hm : Mb w b n f) (hf : ∀ v, v ∈ A → v ≠ a → ∃ p d, f v = some p ∧ p ∈ A ∧ Ds F a d p ∧ Ds F a (d + 1) v ∧ v ∈ F p ∧ ∀ L, Lp F a d p L → Lp F a (d + 1) v (L ++ [v])) (hA : ∀ v, v ∈ A → v < 1000000000) (ht : t ∈ A) (hd : Ds F a d t) (hd2 : d < 100000000) :
    Calls Try.prog 75 #[.int .i64 (a : Int), .int .i64 (t : Int), .map (some b)] w fun e w' => ∃ L o c, Pth F a t d L ∧ e = .returned (.slice o (d + 1) c) ∧ w'.ownsRow w.heap.size 3 1 (.slice o (d + 1) c) (d + 1) (ik L).toList ∧ Below w.heap.size w w' := by
  have HQ := mkHid (And.intro hm (And.intro hf (And.intro hA (And.intro hd hd2))))
  have H0 : Hid (Pb w F a t d b n f A 1 (.slice (some ⟨w.heap.size, 0, none⟩) 1 1) t (w.alloc (.cells #[.int .i64 (t : Int)] 3))) :=
    ⟨(Below.refl _ w).alloc (Nat.le_refl _) _, ht, [t], wb_zero hd, rfl, own_one w _ t (Nat.le_refl _)⟩
  clear hm hf hA ht hd hd2
  go_enter Try.func75, Try.ntmps75
  go_wp2_with fail
  go_loopw [7, 8] (fun pv iv wr => ∃ (o : Option Addr) (m c v : Nat), pv = .slice o m c ∧ iv = .int .i64 (v : Int) ∧ Hid (Pb w F a t d b n f A m (.slice o m c) v wr)) (fun pv _ _ => d + 1 - lnV pv)
  case atStart => exact ⟨_, 1, 1, t, rfl, rfl, H0⟩
  case round =>
    obtain ⟨o, m, c, v, rfl, rfl, HI⟩ := hrel
    by_cases hva : v = a
    · have i1 : (v : Int) = (a : Int) := by rw [hva]
      obtain ⟨B, h1, hB, h2⟩ := HI.out.wb
      have hw := h1.lens
      rw [hva] at h1
      have hP := h1.done HQ.out.2.2.2.1
      obtain ⟨e0, l1, l2⟩ := h1.l
      have he0 : e0 = 0 := l1.uniq (ds_zero.2 rfl)
      have hmd : m = d + 1 := by omega
      have C := rev_any wr h2 (by omega) (by have := HQ.out.2.2.2.2; omega)
      have HP := mkHid (And.intro hP (And.intro HI.out.bel hmd))
      clear h1 hw hB h2 l1 l2 he0 hP hmd hva
      go_wp2_with fail
      refine C.mono ?_
      rintro e w2 ⟨rfl, q1, q2⟩
      have HF := mkHid (And.intro q1 q2)
      clear q1 q2 C
      go_wp2_with fail
      go_ret
      obtain ⟨q1, q2⟩ := HF.out
      obtain ⟨p1, p2, rfl⟩ := HP.out
      refine ⟨_, _, _, p1, rfl, q1, p2.trans (q2.below p2.size fun k hk => ?_)⟩
      exact (q1.lt k hk).1
    · have i1 : ¬ (v : Int) = (a : Int) := by omega
      obtain ⟨p, o', c', w', r1, r2, r3, r4, r5⟩ := HI.out.step HQ.out.1 HQ.out.2.1 HQ.out.2.2.1 hva HQ.out.2.2.2.2
      have HR := mkHid (And.intro r4 r5)
      clear r4 r5 hva
      go_wp2_with fail
      exact ⟨⟨o', m + 1, c', p, rfl, rfl, HR.out.1⟩, measBk d m HR.out.2⟩
end Go.Proofs.Ytgedmfcfhdfoeaa

/- Graphs searched: shortest, with an end that is told by a closure over one box. -/
namespace Go.Proofs.Ytgedmfcfhdfoeaa
open Go.RowKit GM
set_option maxRecDepth 20000
/-- Between two rounds of the search. -/
structure So (W : World) (F : Nat → List Nat) (a : Nat) (P : Nat → Bool) (b n : Nat) (f : Nat → Option Nat) (D Q : List Nat) (qv : Value) (w : World) : Prop where
  bel : Below W.heap.size W w
  mb : Mb w b n f
  hb : W.heap.size ≤ b
  qu : Qu W.heap.size qv Q w
  bq : Bq F a P D Q f
  nn : n = D.length + Q.length
section
variable {W w w' : World} {F : Nat → List Nat} {a b n v x N m c : Nat} {P : Nat → Bool} {f : Nat → Option Nat} {D Q R : List Nat} {qv : Value} {o : Option Addr}
theorem So.below (h : So W F a P b n f D Q qv w) (hb : Below w.heap.size w w') : So W F a P b n f D Q qv w' :=
  ⟨h.bel.trans (hb.mono h.bel.size), h.mb.keep (hb.block b h.mb.lt), h.hb, h.qu.keep fun k _ _ hk => hb.block k (Array.getElem?_eq_some_iff.1 hk).1, h.bq, h.nn⟩
theorem So.add (h : So W F a P b n f D (v :: R) (.slice o m c) w) (hx : x ∈ F v) (hn : f x = none) (hft : ∀ y, y ∈ D ++ v :: R → y ≠ a → ∀ p, f y = some p → p ∈ D ∨ (p = v ∧ y < x)) (ha : a < N) (hF : ∀ v, v < N → ∀ x ∈ F v, x < N) (hN : N ≤ 1000000) :
    ∃ w1 o' c' w2, (mpS (.map (some b)) (.int .i64 (x : Int)) (.int .i64 (v : Int))).run Try.prog w = .ok () w1 ∧ (apI 32 #[.slice o m c, .slice (some ⟨w1.heap.size, 0, none⟩) 1 1]).run Try.prog (w1.alloc (.cells #[.int .i64 (x : Int)] 3)) = .ok (.slice o' (m + 1) c') w2 ∧
      So W F a P b (n + 1) (fun y => if y = x then some v else f y) D (v :: (R ++ [x])) (.slice o' (m + 1) c') w2 := by
  have hv := h.bq.lt ha hF (v := v) (by simp)
  have hxN := hF v hv x hx
  have hl := h.bq.len ha hF
  have hl2 : D.length + (R.length + 1) ≤ N := hl
  have hnn : n = D.length + (R.length + 1) := h.nn
  obtain ⟨w1, q1, q2, q3⟩ := h.mb.put x (by omega) v (by omega) (by omega)
  have f1 := grown_frm q3
  have b1 : Below W.heap.size w w1 := f1.below h.bel.size fun k hk => by have := h.hb; omega
  have u1 : Qu W.heap.size (.slice o m c) (v :: R) w1 := h.qu.keep fun k _ _ hk => f1.blk k (Array.getElem?_eq_some_iff.1 hk).1 fun e => h.mb.row hk e.symm
  have hm : m = (v :: R).length := by
    obtain ⟨_, _, e, -⟩ := h.qu
    injection e
  have s1 : W.heap.size ≤ w1.heap.size := Nat.le_trans h.bel.size b1.size
  obtain ⟨o', c', w2, r1, r2, r3⟩ := u1.add (Nat.succ_pos _) (by show R.length + 1 < _; omega) s1 x
  rw [← hm] at r1 r2
  have b2 : Below W.heap.size w1 w2 := r3.below s1 fun k hk => hk.1
  refine ⟨w1, o', c', w2, q1, r1, h.bel.trans (b1.trans b2), q2.keep (r3.blk b q2.lt fun ⟨_, C, hC⟩ => q2.row hC rfl), h.hb, r2, h.bq.add hx hn hft, ?_⟩
  simp [hnn]
  omega
end
theorem so_zero (W : World) (F : Nat → List Nat) (a : Nat) (P : Nat → Bool) {w1 : World} (h : Mb w1 W.heap.size 1 (fun v => if v = a then some a else none)) (hb : Below W.heap.size W w1) : So W F a P W.heap.size 1 (fun v => if v = a then some a else none) [] [a] (.slice (some ⟨w1.heap.size, 0, none⟩) 1 1) (w1.alloc (.cells #[.int .i64 (a : Int)] 3)) := by
  have b2 : Below w1.heap.size w1 (w1.alloc (.cells #[.int .i64 (a : Int)] 3)) := (Below.refl _ w1).alloc (Nat.le_refl _) _
  refine ⟨hb.trans (b2.mono hb.size), h.keep (b2.block _ h.lt), Nat.le_refl _, ⟨_, 1, rfl, fun _ => ⟨_, 0, _, rfl, hb.size, heap_alloc_new _ _, by simp, by simp, fun j hj => ?_⟩⟩, bq_zero F a P, rfl⟩
  have : j = 0 := by simp at hj; exact hj
  subst this
  simp
/-- Who was found by whom: by those that are looked at, or by v, of its first i needs. -/
def Ft (F : Nat → List Nat) (a : Nat) (f : Nat → Option Nat) (D : List Nat) (v i : Nat) (A : List Nat) : Prop := ∀ y, y ∈ A → y ≠ a → ∀ p, f y = some p → p ∈ D ∨ (p = v ∧ y ∈ (F v).take i)
def Fs (a : Nat) (f : Nat → Option Nat) (D A : List Nat) : Prop := ∀ y, y ∈ A → y ≠ a → ∀ p, f y = some p → p ∈ D
/-- The needs of a node are looked at, up to the i-th. -/
structure Si (W : World) (F : Nat → List Nat) (a : Nat) (P : Nat → Bool) (b : Nat) (D : List Nat) (v i m : Nat) (qv : Value) (w : World) : Prop where
  so : ∃ R f n, So W F a P b n f D (v :: R) qv w ∧ R.length + 1 = m ∧ Ft F a f D v i (D ++ v :: R) ∧ ∀ x, x ∈ (F v).take i → x ∈ D ++ v :: R
theorem memT {l : List Nat} {i : Nat} (h : i < l.length) (y : Nat) : y ∈ l.take (i + 1) → y ∈ l.take i ∨ y = l.getD i 0 := by
  rw [take_snocN h, List.mem_append, List.mem_singleton]
  exact id
theorem take_more {l : List Nat} {i y : Nat} (h : y ∈ l.take i) : y ∈ l.take (i + 1) := by
  rw [List.take_add_one]
  exact List.mem_append_left _ h
theorem rise_take {l : List Nat} (h : l.Pairwise (· < ·)) {i y : Nat} (hi : i < l.length) (hy : y ∈ l.take i) : y < l.getD i 0 := by
  obtain ⟨j, hj, e⟩ := List.getElem_of_mem hy
  rw [List.length_take] at hj
  rw [List.getElem_take] at e
  have := List.pairwise_iff_getElem.1 h j i (by omega) hi (by omega)
  rw [e] at this
  simpa [List.getD, hi] using this
theorem getD_memN {l : List Nat} {i : Nat} (h : i < l.length) : l.getD i 0 ∈ l := by
  rw [List.getD_eq_getElem?_getD, List.getElem?_eq_getElem h]
  exact List.getElem_mem _
section
variable {W w w' : World} {F : Nat → List Nat} {a b v x N m c i : Nat} {P : Nat → Bool} {D : List Nat} {qv : Value} {o : Option Addr}
/-- A need more. -/
theorem Si.step (h : Si W F a P b D v i m (.slice o m c) w) (hi : i < (F v).length) (ha : a < N) (hF : ∀ v, v < N → ∀ x ∈ F v, x < N) (hr : ∀ v, v < N → (F v).Pairwise (· < ·)) (hN : N ≤ 1000000) (hx : (F v).getD i 0 = x) :
    (∃ z : Int, (lkS (.map (some b)) (.int .i64 (x : Int)) true).run Try.prog w = .ok (.tuple #[.int .i64 z, .bool true]) w ∧ Si W F a P b D v (i + 1) m (.slice o m c) w) ∨
    (∃ z : Int, (lkS (.map (some b)) (.int .i64 (x : Int)) true).run Try.prog w = .ok (.tuple #[.int .i64 z, .bool false]) w ∧ ∃ w1 o' c' w2, (mpS (.map (some b)) (.int .i64 (x : Int)) (.int .i64 (v : Int))).run Try.prog w = .ok () w1 ∧ (apI 32 #[.slice o m c, .slice (some ⟨w1.heap.size, 0, none⟩) 1 1]).run Try.prog (w1.alloc (.cells #[.int .i64 (x : Int)] 3)) = .ok (.slice o' (m + 1) c') w2 ∧ Si W F a P b D v (i + 1) (m + 1) (.slice o' (m + 1) c') w2) := by
  obtain ⟨R, f, n, hs, hm, hft, ht⟩ := h.so
  have hxF : x ∈ F v := hx ▸ getD_memN hi
  have hv := hs.bq.lt ha hF (v := v) (by simp)
  have hxN := hF v hv x hxF
  obtain ⟨z, hz⟩ := hs.mb.look x (by omega)
  cases hf : f x with
  | some y =>
    rw [hf] at hz
    refine .inl ⟨z, hz, R, f, n, hs, hm, fun y hy hya p hp => (hft y hy hya p hp).imp id fun k => ⟨k.1, take_more k.2⟩, fun u hu => ?_⟩
    rcases memT hi u hu with q | q
    · exact ht u q
    · rw [q, hx]
      exact (hs.bq.me x).1 (by rw [hf]; rfl)
  | none =>
    rw [hf] at hz
    obtain ⟨w1, o', c', w2, r1, r2, r3⟩ := hs.add hxF hf (fun y hy hya p hp => (hft y hy hya p hp).imp id fun k => ⟨k.1, hx ▸ rise_take (hr v hv) hi k.2⟩) ha hF hN
    refine .inr ⟨z, hz, w1, o', c', w2, r1, r2, R ++ [x], _, _, r3, by simp [← hm], fun y hy hya p hp => ?_, fun u hu => ?_⟩
    · dsimp only at hp
      by_cases e : y = x
      · subst e
        rw [if_pos rfl] at hp
        exact .inr ⟨(Option.some.inj hp).symm, by rw [take_snocN hi, hx]; simp⟩
      · rw [if_neg e] at hp
        have hy2 : y ∈ D ++ v :: R := by
          rcases List.mem_append.1 hy with k | k
          · exact List.mem_append.2 (.inl k)
          · rcases List.mem_cons.1 k with k | k
            · exact List.mem_append.2 (.inr (by rw [k]; exact List.mem_cons_self ..))
            · rcases List.mem_append.1 k with k | k
              · exact List.mem_append.2 (.inr (List.mem_cons_of_mem _ k))
              · exact absurd (List.mem_singleton.1 k) e
        exact (hft y hy2 hya p hp).imp id fun k => ⟨k.1, take_more k.2⟩
    rcases memT hi u hu with q | q
    · rcases List.mem_append.1 (ht u q) with k | k
      · exact List.mem_append.2 (.inl k)
      · rcases List.mem_cons.1 k with k | k
        · exact List.mem_append.2 (.inr (by rw [k]; exact List.mem_cons_self ..))
        · exact List.mem_append.2 (.inr (List.mem_cons_of_mem _ (List.mem_append.2 (.inl k))))
    · rw [q, hx]
      simp
/-- All its needs are looked at. -/
theorem Si.next (h : Si W F a P b D v (F v).length m (.slice o m c) w) (hp : P v = false) : ∃ g off R n f, o = some ⟨g, off, none⟩ ∧ m ≤ c ∧ R.length + 1 = m ∧ Fs a f (D ++ [v]) ((D ++ [v]) ++ R) ∧ ∀ o', (R.length ≠ 0 → o' = some ⟨g, off + 1, none⟩) → So W F a P b n f (D ++ [v]) R (.slice o' (m - 1) (c - 1)) w := by
  obtain ⟨R, f, n, hs, hm, hft, ht⟩ := h.so
  obtain ⟨g, off, c', e, hc, -, hq⟩ := hs.qu.head
  injection e with e1 e2 e3
  subst e3
  refine ⟨g, off, R, n, f, e1, by omega, hm, fun y hy hya p hp => by
    rw [List.append_assoc] at hy
    rcases hft y hy hya p hp with k | k
    · exact List.mem_append_left _ k
    · exact List.mem_append_right _ (List.mem_singleton.2 k.1), fun o' ho => ⟨hs.bel, hs.mb, hs.hb, ?_, hs.bq.next (fun x hx => ht x (by rw [List.take_length]; exact hx)) hp, ?_⟩⟩
  · rw [show m - 1 = R.length by omega]
    exact hq o' ho
  · have := hs.nn
    simp at this ⊢
    omega
end
/-- A round of the search. -/
def Rq (W : World) (F : Nat → List Nat) (a : Nat) (P : Nat → Bool) (b : Nat) (qv : Value) (w : World) (k : Nat) : Prop := ∃ Q D f n, D.length = k ∧ Fs a f D (D ++ Q) ∧ So W F a P b n f D Q qv w
theorem own_base {w : World} {B B' n : Nat} {v : Value} {xs : List Value} (h : w.ownsRow B 3 1 v n xs) (hB : B' ≤ B) : w.ownsRow B' 3 1 v n xs := by
  obtain ⟨h0, h1 | ⟨g, cap, cur, h1, h2, h3⟩⟩ := h
  · exact ⟨h0, .inl h1⟩
  · exact ⟨h0, .inr ⟨g, cap, cur, h1, Nat.le_trans hB h2, h3⟩⟩
theorem lt9 {i n : Nat} (h : i < n) (h2 : n < 10000000) : i < 1000000000 := by omega
theorem lenN {a b N : Nat} (h : a + (b + 1) ≤ N) : a < N := by omega
theorem capN {m c r : Nat} (h : m ≤ c) (h2 : r + 1 = m) (h3 : r ≠ 0) : ¬ c = 1 := by omega
theorem oneI {m : Nat} (h : 1 ≤ m) : (1 : Int) ≤ (m : Int) := by omega
theorem leI {m c : Nat} (h : m ≤ c) : (m : Int) ≤ (c : Int) := by omega
/-- What shortest answers. -/
def ShP (F : Nat → List Nat) (a : Nat) (P : Nat → Bool) (w : World) (e : Ending) (w' : World) : Prop :=
  Below w.heap.size w w' ∧ ((e = .returned (.slice none 0 0) ∧ ∀ d x, Bl F a d x → P x = false) ∨
    ∃ t d L o c, Pth F a t d L ∧ P t = true ∧ (∀ x e, Ds F a e x → e < d → P x = false) ∧ e = .returned (.slice o (d + 1) c) ∧ w'.ownsRow w.heap.size 3 1 (.slice o (d + 1) c) (d + 1) (ik L).toList)
attribute [local go_sem ↓] toApI toLkS toMpS
set_option maxRecDepth 100000 in
set_option maxHeartbeats 6400000 in
theorem short_any (w : World) {g N a kb : Nat} {gv : Nat → Nat} {F : Nat → List Nat} {V : Nat → Value} (P : Nat → Bool) (ha : a < N) (hN : N ≤ 1000000) (hF : ∀ v, v < N → ∀ x ∈ F v, x < N) (hFl : ∀ v, v < N → (F v).length < 10000000) (hr : ∀ v, v < N → (F v).Pairwise (· < ·))
    (ro : ∀ v, v < N → w.cell? ⟨g, v, none⟩ = some (V v) ∧ Il (gv v) (V v) (F v) w) (he : ∀ v W, v < N → Below w.heap.size w W → Calls Try.prog 73 #[.int .i64 (v : Int), .pointer (some ⟨kb, 0, none⟩)] W fun e w' => e = .returned (.bool (P v)) ∧ Below W.heap.size W w') :
    Calls Try.prog 55 #[.int .i64 (a : Int), nOf g N, .func (.func 73) #[] #[.pointer (some ⟨kb, 0, none⟩)]] w (ShP F a P w) := by
  have hmm : (Instr.makeMap 103 none).run Try.prog w = .ok (.map (some w.heap.size)) (w.alloc (.map #[] 0)) := run_makeMap _ _
  obtain ⟨A, hA⟩ : ∃ A, w.alloc (.map #[] 0) = A := ⟨_, rfl⟩
  have bA : Below w.heap.size w A := by rw [← hA]; exact (Below.refl _ w).alloc (Nat.le_refl _) _
  have mA : Mb A w.heap.size 0 (fun _ => none) := by rw [← hA]; exact mb_made w
  obtain ⟨A1, p1, p2, p3⟩ := mA.put a (by omega) a (by omega) (by omega)
  have bA1 : Below w.heap.size w A1 := bA.trans ((grown_frm p3).below bA.size fun k hk => by omega)
  have H0 : Hid (So w F a P w.heap.size 1 (fun v => if v = a then some a else none) [] [a] (.slice (some ⟨A1.heap.size, 0, none⟩) 1 1) (A1.alloc (.cells #[.int .i64 (a : Int)] 3))) := so_zero w F a P p2 bA1
  rw [hA] at hmm
  obtain ⟨kb0, hkb0⟩ : ∃ k, w.heap.size = k := ⟨_, rfl⟩
  rw [hkb0] at hmm p1
  have HQ := mkHid (And.intro ha (And.intro hN (And.intro hF (And.intro hFl (And.intro ro (And.intro he (And.intro hkb0 hr)))))))
  clear bA mA p2 p3 bA1 ha hN hF hFl ro he hA hr
  have HK : Hid (∃ k, k ≤ N ∧ Rq w F a P kb0 (.slice (some ⟨A1.heap.size, 0, none⟩) 1 1) (A1.alloc (.cells #[.int .i64 (a : Int)] 3)) k) := ⟨0, Nat.zero_le _, [a], [], _, _, rfl, fun y hy hya => absurd (by simpa using hy) hya, hkb0 ▸ H0.out⟩
  clear H0 hkb0
  unfold nOf
  go_enter Try.func55, Try.ntmps55
  go_wp2_with fail
  go_loopw [8] (fun qv wr => ∃ (o : Option Addr) (m c : Nat), qv = .slice o m c ∧ Hid (∃ k, k ≤ N ∧ Rq w F a P kb0 (.slice o m c) wr k)) (fun qv wr => msr N (fun k => Rq w F a P kb0 qv wr k))
  case atStart => exact ⟨_, 1, 1, rfl, HK⟩
  case round =>
    obtain ⟨o, m, c, rfl, HI⟩ := hrel
    obtain ⟨k, hk, ⟨Q, D, f, n, hD, hfs, hs⟩, hms⟩ := (msr_spec HI.out).1
    have hqu := hs.qu
    cases Q with
    | nil =>
      have hm : m = 0 := by
        obtain ⟨_, _, e, -⟩ := hqu
        injection e
      subst hm
      have HE := mkHid (And.intro hs.bel hs.bq.stop)
      clear hk hD hs hms hqu HI hfs
      go_wp2_with fail
      go_ret
      exact ⟨HE.out.1, .inl ⟨rfl, HE.out.2⟩⟩
    | cons v R =>
      obtain ⟨qg, qo, c0, e, hc, c1, -⟩ := hqu.head
      injection e with e1 e2 e3
      subst e1 e3
      obtain ⟨ha, hN, hF, hFl, ro, he, hkb, hr⟩ := HQ.out
      have hv := hs.bq.lt ha hF (v := v) (by simp)
      have hm0 : (0 : Int) < (m : Int) := by omega
      have hm1 : 0 < m := by omega
      have C := he v wr hv hs.bel
      have hlen := hs.bq.len ha hF
      have hln2 : D.length + (R.length + 1) ≤ N := hlen
      cases hP : P v with
      | true =>
        rw [hP] at C
        have HS := mkHid (And.intro hs (And.intro hv hP))
        clear hk hD hs hms hqu HI hfs hc ha hN hF hFl ro he hkb hr hv hlen hln2 e2 hP
        go_wp2_with fail
        refine C.mono ?_
        rintro e w1 ⟨rfl, b1⟩
        obtain ⟨ha, hN, hF, hFl, ro, he, hkb, hr⟩ := HQ.out
        obtain ⟨hs, hv, hP⟩ := HS.out
        have hs1 := hs.below b1
        obtain ⟨d, hd⟩ := hs.bq.ds (v := v) (by simp)
        have hdN : d < 100000000 := by
          obtain ⟨K, hK1, hK2, -⟩ := lyr_end (nd := F) (S := [a]) (N := N) (fun x hx => by rw [List.mem_singleton.1 hx]; exact ha) hF
          have := ds_lt hK2 d v hd
          omega
        have CB := back_any w1 hs1.mb hs1.bq.by1 (fun x hx => by have := hs1.bq.lt ha hF hx; omega) (t := v) (by simp) hd hdN
        have HN := mkHid (hs.bq.near hd)
        have HB := mkHid hs1.bel
        clear hs hs1 hd hdN hv ha hN hF hFl ro he hkb hr C b1 c1
        go_wp2_with fail
        refine CB.mono ?_
        rintro e w2 ⟨L, o2, c2, q1, rfl, q2, q3⟩
        have HR := mkHid (And.intro q1 (And.intro q2 q3))
        clear q1 q2 q3 CB
        go_wp2_with fail
        go_ret
        obtain ⟨q1, q2, q3⟩ := HR.out
        exact ⟨HB.out.trans (q3.mono HB.out.size), .inr ⟨v, d, L, o2, c2, q1, HS.out.2.2, HN.out, rfl, own_base q2 HB.out.size⟩⟩
      | false =>
        rw [hP] at C
        obtain ⟨ov, cv, eV, hvr⟩ := (ro v hv).2
        have cV := (ro v hv).1
        obtain ⟨ln, hln⟩ : ∃ n, (F v).length = n := ⟨_, rfl⟩
        rw [eV, hln] at cV
        rw [hln] at hvr
        have HS := mkHid (And.intro hs (And.intro hv (And.intro hP (And.intro hD (And.intro hms (And.intro hln2 (And.intro hln (And.intro hvr (And.intro e2 (And.intro cV hfs))))))))))
        clear hk hD hs hms hqu HI hfs hc ha hN hF hFl ro he hkb hr hv hlen hln2 e2 hP eV hvr hln cV
        go_wp2_with fail
        refine C.mono ?_
        rintro e w1 ⟨rfl, b1⟩
        obtain ⟨hs, hv, hP, hD, hms, hln2, hln, hvr, e2, cV, hfs⟩ := HS.out
        have hs1 := hs.below b1
        have CO := of_cell w1 (g := g) (N := N) ((World.cell?_of_block (w := w) (a := ⟨g, v, none⟩) (hs1.bel.block g (World.block_lt_of_cell? w _ cV))).trans cV) hv
        have H1 : Hid (Si w F a P kb0 D v 0 m (.slice (some ⟨qg, qo, none⟩) m c) w1) := ⟨R, f, n, hs1, by simpa using e2.symm, fun y hy hya p hp => .inl (hfs y hy hya p hp), fun x hx => by simp at hx⟩
        clear hs hv hP hD hms hln2 hln hvr e2 cV hfs hs1 b1 C c1
        go_wp2_with fail
        refine CO.mono ?_
        rintro e w2 ⟨rfl, rfl⟩
        clear CO
        go_wp2_with fail
        go_loopw [39, 8] (fun iv qv wr => ∃ (i m c : Nat) (o : Option Addr), iv = .int .i64 (i : Int) ∧ qv = .slice o m c ∧ i ≤ ln ∧ Hid (Si w F a P kb0 D v i m (.slice o m c) wr)) (fun iv _ _ => ln - (intOf iv).toNat)
        case atStart => exact ⟨0, m, c, _, rfl, rfl, Nat.zero_le _, H1⟩
        case round =>
          obtain ⟨i, mj, cj, oj, rfl, rfl, hi, HJ⟩ := hrel
          by_cases hlt : i < ln
          · have i1 := ltI hlt
            have i0 := geI i
            obtain ⟨ha, hN, hF, hFl, ro, he, hkb, hr⟩ := HQ.out
            obtain ⟨hs, hv, hP, hD, hms, hln2, hln, hvr, e2, cV, hfs⟩ := HS.out
            obtain ⟨off, rfl, hgw, hcc⟩ := hvr (Nat.lt_of_le_of_lt (Nat.zero_le _) hlt)
            obtain ⟨_, _, _, hsj, -⟩ := HJ.out.so
            obtain ⟨x, hx⟩ : ∃ x, (F v).getD i 0 = x := ⟨_, rfl⟩
            have cx : wr.cell? ⟨gv v, off + i, none⟩ = some (.int .i64 (x : Int)) := by
              rw [← hx]
              exact (World.cell?_of_block (w := w) (a := ⟨gv v, off + i, none⟩) (hsj.bel.block _ hgw)).trans (hcc i hlt)
            have hw1 := wrapI i (lt9 hlt (hln ▸ hFl v hv))
            have hst := HJ.out.step (N := N) (hln.symm ▸ hlt) ha hF hr hN hx
            clear ha hN hF hFl ro he hkb hr hs hv hP hD hms hln2 hln hvr e2 cV hfs hgw hcc hsj hx
            rcases hst with ⟨z, r1, r2⟩ | ⟨z, r1, u1, o', c', u2, r2, r3, r4⟩
            · have HR := mkHid r2
              clear r2
              go_wp2_with fail
              exact ⟨⟨i + 1, mj, cj, oj, by simp [hw1], rfl, hlt, HR⟩, by rw [hw1]; exact measI _ _ hlt⟩
            · have HR := mkHid r4
              clear r4
              go_wp2_with fail
              exact ⟨⟨i + 1, mj + 1, c', o', by simp [hw1], rfl, hlt, HR⟩, by rw [hw1]; exact measI _ _ hlt⟩
          · have i1 := nltI hlt
            obtain rfl := eqI hi hlt
            obtain ⟨g2, off2, R2, n2, f2, rfl, hmc, hR2, hf2, hnx⟩ := by
              have := HJ.out
              rw [← HS.out.2.2.2.2.2.2.1] at this
              exact this.next HS.out.2.2.1
            have j3 : 1 ≤ mj := by rw [← hR2]; exact Nat.succ_pos _
            have j1 := oneI j3
            have j2 := leI hmc
            have HX := mkHid (And.intro hnx (And.intro hR2 hf2))
            clear hnx hR2 hi hf2
            go_wp2_with fail
            obtain ⟨hnx, hR2, hf2⟩ := HX.out
            obtain ⟨hs, hv, hP, hD, hms, hln2, -⟩ := HS.out
            have hk1 : k < N := by rw [← hD]; exact lenN hln2
            have hs' := hnx (if cj = 1 then some ⟨g2, off2, none⟩ else some ⟨g2, off2 + 1, none⟩) (fun hr => if_neg (capN hmc hR2 hr))
            have hD' : (D ++ [v]).length = k + 1 := by rw [List.length_append, hD]; rfl
            exact ⟨⟨_, _, _, rfl, k + 1, hk1, R2, D ++ [v], f2, n2, hD', hf2, hs'⟩, msr_less hms hk1 ⟨R2, D ++ [v], f2, n2, hD', hf2, hs'⟩⟩
end Go.Proofs.Ytgedmfcfhdfoeaa
