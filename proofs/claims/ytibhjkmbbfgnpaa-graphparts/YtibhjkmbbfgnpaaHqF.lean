/- Graphs in order: order, of any graph, the least first. -/
import Derived.Test.YtibhjkmbbfgnpaaJhB
import Derived.Test.YtibhjkmbbfgnpaaGoF
namespace Go.Proofs.Ytibhjkmbbfgnpaa
open Go.RowKit GM Gl
/-- Always the least of those that may come. -/
def Ls (L : Nat → List Nat) (N : Nat) (o : List Nat) : Prop := ∀ p v q, o = p ++ v :: q → ∀ u, u < N → u ∉ p → (∀ b ∈ L u, b ∈ p) → v ≤ u
theorem ls_nil (L : Nat → List Nat) (N : Nat) : Ls L N [] := fun p v q e => by simp at e
theorem _root_.Go.Proofs.Ytibhjkmbbfgnpaa.Gl.Kn.lst {L : Nat → List Nat} {N : Nat} {o F : List Nat} {M : Nat → Nat} {x : Nat} (h : Kn L N o F M) (ls : Ls L N o) (hx : ∀ y ∈ F, x ≤ y) : Ls L N (o ++ [x]) := by
  intro p v q e u hu hp hb
  rcases q.eq_nil_or_concat with hq | ⟨q', z, hq⟩
  · subst hq
    obtain ⟨e1, e2⟩ := List.append_inj' e rfl
    have e2 := (List.cons.inj e2).1
    subst e1 e2
    have m0 : M u = 0 := by
      rw [h.ms u hu, List.length_eq_zero_iff, List.filter_eq_nil_iff]
      intro b hb'
      simp [hb b hb']
    rcases List.mem_append.1 ((h.zr u hu).2 m0) with k | k
    · exact absurd k hp
    · exact hx u k
  · subst hq
    have e' : o ++ [x] = (p ++ v :: q') ++ [z] := by rw [e]; simp
    obtain ⟨e1, -⟩ := List.append_inj' e' rfl
    exact ls p v q' e1 u hu hp hb
section
attribute [local go_sem ↓] toMkI toApI ta3
set_option maxRecDepth 100000 in
set_option maxHeartbeats 6400000 in
theorem order_lst (N : Nat) (hN : N ≤ 1024) (L : Nat → List Nat) (hL : ∀ a b, b ∈ L a → b < N) (hnd : ∀ a, (L a).Nodup) (h0 : ∀ a, N ≤ a → L a = []) (g : Nat) (V : Nat → Value) (w : World) (hr : Rws g N L V w) : Calls Try.prog 57 #[.slice (some ⟨g, 0, none⟩) N N] w fun e w' => ∃ o ov, e = .returned ov ∧ (∃ M, Kn L N o [] M) ∧ Ls L N o ∧ w'.ownsRow w.heap.size 3 1 ov o.length (ik o).toList ∧ Below w.heap.size w w' := by
  have ll : ∀ b, (L b).length ≤ N := fun b => by
    by_cases hb : b < N
    · have := List.Nodup.length_le_of_subset (l₁ := L b) (l₂ := List.range N) (hnd b) (fun v hv => List.mem_range.2 (hL b v hv))
      simpa using this
    · rw [h0 b (by omega)]; simp
  have CT : Hid (Calls Try.prog 40 #[.slice (some ⟨g, 0, none⟩) N N] w fun e w' => ∃ g' V', e = .returned (.slice (some ⟨g', 0, none⟩) N N) ∧ Rws g' N (trL L N) V' w' ∧ Below w.heap.size w w' ∧ w.heap.size ≤ g') := turned_any N (by omega) L (fun b hb a ha => hL b a ha) (fun b => by have := ll b; omega) g V w hr
  have HL : Hid ((∀ a b, b ∈ L a → b < N) ∧ (∀ a, (L a).Nodup) ∧ (∀ b, (L b).length ≤ N) ∧ N ≤ 1024 ∧ Rws g N L V w) := ⟨hL, hnd, ll, hN, hr⟩
  clear hN hL hnd h0 hr ll
  go_enter Try.func57, Try.ntmps57
  go_wp2_with fail
  with_reducible refine Calls.mono CT.out ?_
  rintro en W1 ⟨g1, V1, rfl, R1, B1, hg1⟩
  obtain ⟨W2, r2, row2, b2⟩ := run_mkI W1 N (by have := HL.out.2.2.2.1; omega)
  obtain ⟨X0, hX0⟩ : ∃ X, (W2.alloc (.cells #[] 3)).alloc (.cells #[.slice (some ⟨W2.heap.size, 0, none⟩) 0 0] 111) = X := ⟨_, rfl⟩
  have gw : W1.heap.size < W2.heap.size := (Array.getElem?_eq_some_iff.1 row2).1
  have O0 : Oo W1 W1.heap.size W2.heap.size (W2.heap.size + 1) N (List.replicate N 0) (.slice (some ⟨W2.heap.size, 0, none⟩) 0 0) [] X0 := by
    have bX : Below W2.heap.size W2 X0 := by rw [← hX0]; exact ((Below.refl _ W2).alloc (Nat.le_refl _) _).alloc (by simp) _
    have rf : X0.heap[W2.heap.size + 1]? = some (.cells #[.slice (some ⟨W2.heap.size, 0, none⟩) 0 0] 111 (0, 0)) := by
      rw [← hX0]
      have := heap_alloc_new (W2.alloc (.cells #[] 3)) (.cells #[.slice (some ⟨W2.heap.size, 0, none⟩) 0 0] 111)
      have e : (W2.alloc (.cells #[] 3)).heap.size = W2.heap.size + 1 := by simp
      rwa [e] at this
    have re : X0.heap[W2.heap.size]? = some (.cells #[] 3 (0, 0)) := by
      rw [← hX0]
      exact (heap_alloc_old _ _ (h := by simp)).trans (heap_alloc_new _ _)
    refine ⟨b2.trans (bX.mono b2.size), (bX.block _ gw).trans row2, by simp, ⟨rf, ⟨rfl, .inr ⟨W2.heap.size, 0, #[], rfl, Nat.zero_le _, re, Nat.le_refl _, Nat.zero_le _, rfl, rfl⟩⟩⟩, fun k hk => ?_, Nat.le_refl _, gw, by omega⟩
    have : W2.heap.size = k := Option.some.inj hk
    omega
  have HO : Hid (Rws g1 N (trL L N) V1 W1 ∧ Below w.heap.size w W1 ∧ Oo W1 W1.heap.size W2.heap.size (W2.heap.size + 1) N (List.replicate N 0) (.slice (some ⟨W2.heap.size, 0, none⟩) 0 0) [] X0) := ⟨R1, B1, O0⟩
  obtain ⟨gm, hgm⟩ : ∃ k, W1.heap.size = k := ⟨_, rfl⟩
  obtain ⟨B, hB⟩ : ∃ k, W2.heap.size = k := ⟨_, rfl⟩
  rw [hgm] at r2
  have HO2 : Hid (Oo W1 gm B (B + 1) N (List.replicate N 0) (.slice (some ⟨B, 0, none⟩) 0 0) [] X0) := by have := HO.out.2.2; rw [hgm, hB] at this; exact this
  clear R1 B1 hg1 row2 b2 gw O0
  rw [hB] at hX0
  go_wp2_with fail
  go_loopw [20] (fun iv wr => ∃ (k : Nat), iv = .int .i64 (k : Int) ∧ Hid (k ≤ N ∧ ∃ ms v F, Kf L N k F (fun i => ms.getD i 0) ∧ Oo W1 gm B (B + 1) N ms v F wr ∧ Hq F F.length)) (fun iv _ => N + 1 - (intOf iv).toNat)
  case atStart => exact ⟨0, rfl, Nat.zero_le _, _, _, [], Kf.zero L N _, HO2.out, Hq.nil _⟩
  case round =>
    obtain ⟨k, rfl, HI⟩ := hrel
    obtain ⟨hk, ms, v, F, kf, oo, hq0⟩ := HI.out
    have HQ0 : Hid (Hq F F.length) := hq0
    clear hq0
    have bw : Below w.heap.size w wr := HO.out.2.1.trans (oo.b1.mono HO.out.2.1.size)
    by_cases hi : k < N
    · obtain ⟨ok, ck, hv⟩ := own_size (HL.out.2.2.2.2.own k hi)
      have cn := ((HL.out.2.2.2.2.below bw).cell k hi).1
      rw [hv] at cn
      obtain ⟨m, hm⟩ : ∃ m, (L k).length = m := ⟨_, rfl⟩
      rw [hm] at cn
      obtain ⟨cg, fg⟩ := oo.get k hi
      have os := oo.set k m
      obtain ⟨X1, hX1⟩ : ∃ X, wr.setCell ⟨gm, k, none⟩ (.int .i64 (m : Int)) = X := ⟨_, rfl⟩
      rw [hX1] at os
      have cs := (os.get k hi).1
      rw [getD_set_same ms k m (by rw [oo.ml]; exact hi)] at cs
      have hi0 : (0 : Int) ≤ (k : Int) := by omega
      have hi1 : (k : Int) < (N : Int) := by omega
      have w1' : wrap64 ((k : Int) + 1) = (k : Int) + 1 := by unfold wrap64; have := HL.out.2.2.2.1; omega
      have HS : Hid (k < N ∧ (L k).length = m ∧ Oo W1 gm B (B + 1) N (ms.set k m) v F X1 ∧ ∀ F', F'.Perm (if (L k).length = 0 then F ++ [k] else F) → Kf L N (k + 1) F' (fun i => (ms.set k m).getD i 0)) := ⟨hi, hm, os, fun F' hF => kf.step (by rw [hm]; exact getD_set_same ms k m (by rw [oo.ml]; exact hi)) (fun u hu => getD_set_ne ms k m u hu) hF⟩
      have HF : Hid (F.length ≤ 1024) := by have := kf_len kf; have := HL.out.2.2.2.1; show F.length ≤ 1024; omega
      have HP : Hid (Hp (B + 1) v F X1) := os.hp
      clear hk kf oo bw hv hm os HI
      by_cases hm0 : m = 0
      · subst hm0
        have hX1' : wr.setCell ⟨gm, k, none⟩ (.int .i64 0) = X1 := hX1
        have cs' : X1.cell? ⟨gm, k, none⟩ = some (.int .i64 0) := cs
        clear hX1 cs
        have CP : Hid (Calls Try.prog 77 #[.iface 110 (.pointer (some ⟨B + 1, 0, none⟩)), .iface 3 (.int .i64 (k : Int))] X1 fun e w' => e = .returned (.tuple #[]) ∧ ∃ v' F', F'.Perm (F ++ [k]) ∧ Hq F' F'.length ∧ Hp (B + 1) v' F' w' ∧ Ch (B + 1) v v' X1 w') := push_ex X1 (B + 1) v F HP.out (by have := HF.out; omega) HQ0.out k
        clear hi
        go_wp2_with fail
        with_reducible refine Calls.mono CP.out ?_
        rintro en X2 ⟨rfl, v', F', p', q', h', c'⟩
        have HE : Hid (∃ ms v F, Kf L N (k + 1) F (fun i => ms.getD i 0) ∧ Oo W1 gm B (B + 1) N ms v F X2 ∧ Hq F F.length) := ⟨_, v', F', HS.out.2.2.2 F' (by rw [if_pos HS.out.2.1]; exact p'), HS.out.2.2.1.ch h' c', q'⟩
        clear p' h' c' q'
        go_wp2_with fail
        go_roundw
        · exact ⟨k + 1, by go_num, HS.out.1, HE.out⟩
        · rw [w1']
          exact meas N k HS.out.1
      · have hm1 : ¬ ((m : Int) = 0) := by omega
        clear hi
        go_wp2_with fail
        go_roundw
        · exact ⟨k + 1, by go_num, HS.out.1, _, v, F, HS.out.2.2.2 F (by rw [if_neg (by rw [HS.out.2.1]; exact hm0)]), HS.out.2.2.1, HQ0.out⟩
        · rw [w1']
          exact meas N k HS.out.1
    · have hi1 : ¬ ((k : Int) < (N : Int)) := by omega
      have HK : Hid (∃ ms v F, Kn L N [] F (fun i => ms.getD i 0) ∧ Oo W1 gm B (B + 1) N ms v F wr ∧ Hq F F.length) := by
        have e : k = N := by omega
        rw [e] at kf
        exact ⟨ms, v, F, kf.kn, oo, HQ0.out⟩
      clear hk kf oo bw hi HI
      obtain ⟨W3, r3, row3, b3⟩ := run_mkI0 wr N (by have := HL.out.2.2.2.1; omega)
      have HM : Hid (∃ ms v F, Kn L N [] F (fun i => ms.getD i 0) ∧ Oo W1 gm B (B + 1) N ms v F W3 ∧ Ou B (B + 1) v (.slice (some ⟨wr.heap.size, 0, none⟩) 0 N) [] W3 ∧ Hq F F.length) := by
        obtain ⟨ms, v, F, kn, oo, hq0⟩ := HK.out
        have hs := (Array.getElem?_eq_some_iff.1 oo.hp.row).1
        have g1 := oo.g1
        have g2 := oo.g2
        refine ⟨ms, v, F, kn, ⟨oo.b1.trans (b3.mono oo.b1.size), (b3.block _ (by omega)).trans oo.row, oo.ml, ⟨(b3.block _ hs).trans oo.hp.row, own_keep2 oo.hp.own fun k hk => b3.block k (oo.hp.own.lt k hk).2⟩, oo.vo, oo.g1, oo.g2, oo.g3⟩, ⟨⟨rfl, .inr ⟨wr.heap.size, N, _, rfl, by omega, row3, Nat.zero_le _, by unfold maxLen; have := HL.out.2.2.2.1; omega, by simp [ik], by simp [ik]⟩⟩, fun k hk => ?_⟩, ?_⟩
        · have e : wr.heap.size = k := Option.some.inj hk
          subst e
          exact ⟨fun q => by have := (oo.hp.own.lt _ q).2; omega, by omega⟩
        · exact hq0
      clear row3 b3 HK
      go_wp2_with fail
      go_loopw [7] (fun ov wr => ∃ (a : Option Addr) (n c : Nat), ov = .slice a n c ∧ Hid (∃ o ms v F, o.length = n ∧ Kn L N o F (fun i => ms.getD i 0) ∧ Oo W1 gm B (B + 1) N ms v F wr ∧ Ou B (B + 1) v (.slice a n c) o wr ∧ Ls L N o ∧ Hq F F.length)) (fun ov _ => N + 1 - lenOf ov)
      case atStart =>
        obtain ⟨ms, v, F, h1, h2, h3, h4⟩ := HM.out
        exact ⟨_, _, _, rfl, [], ms, v, F, rfl, h1, h2, h3, ls_nil L N, h4⟩
      case round =>
        obtain ⟨a, n, c, rfl, HI⟩ := hrel
        obtain ⟨o, ms, v, F, ho, kn, oo, ou, ls, hq1⟩ := HI.out
        have HL1 : Hid (Ls L N o ∧ Hq F F.length) := ⟨ls, hq1⟩
        clear ls hq1
        obtain ⟨va, vc, hv⟩ := own_size oo.hp.own
        obtain ⟨m, hm⟩ : ∃ m, F.length = m := ⟨_, rfl⟩
        rw [hm] at hv
        subst hv
        have cf := oo.hp.cell.1
        have CL : Hid (Calls Try.prog 78 #[.slice va m vc] wr fun e w' => e = .returned (.int .i64 (m : Int)) ∧ w' = wr) := len_any wr va m vc
        by_cases h0 : m = 0
        · have HE : Hid (∃ o ov, Value.slice a n c = ov ∧ (∃ M, Kn L N o [] M) ∧ Ls L N o ∧ wr.ownsRow w.heap.size 3 1 ov o.length (ik o).toList ∧ Below w.heap.size w wr) := by
            have hF : F = [] := List.length_eq_zero_iff.1 (by omega)
            subst hF
            have g1 := oo.g1
            have g2 := oo.g2
            have bs := HO.out.2.1.size
            refine ⟨o, _, rfl, ⟨_, kn⟩, HL1.out.1, ?_, HO.out.2.1.trans (oo.b1.mono bs)⟩
            obtain ⟨u0, u1⟩ := ou.own
            refine ⟨u0, ?_⟩
            rcases u1 with u1 | ⟨g, cap, cur, u2, u3, u4⟩
            · exact .inl u1
            · exact .inr ⟨g, cap, cur, u2, by omega, u4⟩
          have hm1 : ¬ ((0 : Int) < (m : Int)) := by omega
          clear HI ho kn oo ou hm h0
          go_wp2_with fail
          with_reducible refine Calls.mono CL.out ?_
          rintro en W9 ⟨rfl, rfl⟩
          go_wp2_with fail
          go_ret
          obtain ⟨o, ov, e1, e2, e3, e4, e5⟩ := HE.out
          subst e1
          exact ⟨o, _, rfl, e2, e3, e4, e5⟩
        · have hm1 : (0 : Int) < (m : Int) := by omega
          have kl := kn_len kn
          have CP : Hid (Calls Try.prog 79 #[.iface 110 (.pointer (some ⟨B + 1, 0, none⟩))] wr fun e w' => ∃ (x : Nat) (v' : Value) (F' : List Nat), e = .returned (.iface 3 (.int .i64 (x : Int))) ∧ F.Perm (x :: F') ∧ (∀ y ∈ F, x ≤ y) ∧ Hq F' F'.length ∧ Hp (B + 1) v' F' w' ∧ Ch (B + 1) (.slice va m vc) v' wr w') := pop_ex wr (B + 1) _ F oo.hp (by have := HL.out.2.2.2.1; omega) (by omega) HL1.out.2
          have HQ : Hid (o.length = n ∧ n < N ∧ Kn L N o F (fun i => ms.getD i 0) ∧ Oo W1 gm B (B + 1) N ms (.slice va m vc) F wr ∧ Ou B (B + 1) (.slice va m vc) (.slice a n c) o wr) := ⟨ho, by omega, kn, oo, ou⟩
          clear HI ho kn oo ou hm h0 kl
          go_wp2_with fail
          with_reducible refine Calls.mono CL.out ?_
          rintro en W9 ⟨rfl, rfl⟩
          go_wp2_with fail
          with_reducible refine Calls.mono CP.out ?_
          rintro en X2 ⟨x, v', F', rfl, pF, lst, hqF, hp2, ch2⟩
          obtain ⟨ho, hn, kn, oo, ou⟩ := HQ.out
          obtain ⟨a2, n2, c2, V2, ra, ou3, oo3⟩ := (ou.ch ch2).add (oo.ch hp2 ch2) x (by have := HL.out.2.2.2.1; omega)
          have en2 : n2 = n + 1 := by
            obtain ⟨_, _, _, e, _⟩ := own_get ou3.own
            injection e with _ e2
            rw [e2, List.length_append, ho]
            rfl
          subst en2
          have hxN : x < N := kn.lt x (List.mem_append.2 (.inr (pF.mem_iff.2 (by simp))))
          have HL2 : Hid (Ls L N (o ++ [x])) := kn.lst HL1.out.1 lst
          have kp := kn.pop pF HL.out.2.1 (trL L N x) (fun u hu => by rw [mem_trL]; simp [hu])
          have R2 := HO.out.1.below oo3.b1
          have cx := (R2.cell x hxN).1
          obtain ⟨bo, bc, hbx⟩ := own_size (HO.out.1.own x hxN)
          rw [hbx] at cx
          obtain ⟨rest, hrest⟩ : ∃ r, trL L N x = r := ⟨_, rfl⟩
          rw [hrest] at kp cx hbx
          obtain ⟨ln, hln⟩ : ∃ k, rest.length = k := ⟨_, rfl⟩
          rw [hln] at cx hbx
          have HR : Hid (rest.length = ln ∧ ln ≤ N ∧ rest.Nodup ∧ (∀ y ∈ rest, y < N) ∧ V1 x = .slice bo ln bc ∧ trL L N x = rest ∧ n < N ∧ o.length = n ∧ x < N) := by
            refine ⟨hln, ?_, hrest ▸ trL_nodup L N x, fun y hy => (mem_trL.1 (hrest ▸ hy)).1, hbx, hrest, hn, ho, hxN⟩
            have := List.Nodup.length_le_of_subset (l₁ := rest) (l₂ := List.range N) (hrest ▸ trL_nodup L N x) (fun v hv => List.mem_range.2 (mem_trL.1 (hrest ▸ hv)).1)
            simpa [hln] using this
          have H3 : Hid (∃ ms v F, Kp L N (o ++ [x]) F (fun i => ms.getD i 0) rest ∧ Oo W1 gm B (B + 1) N ms v F V2 ∧ Ou B (B + 1) v (.slice a2 (n + 1) c2) (o ++ [x]) V2 ∧ Hq F F.length) := ⟨ms, v', F', kp, oo3, ou3, hqF⟩
          have x0 : (0 : Int) ≤ (x : Int) := by omega
          have x1 : (x : Int) < (N : Int) := by omega
          clear lst hqF pF hp2 ch2 ho hn kn oo ou ou3 oo3 hxN kp R2 hbx hrest hln
          go_wp2_with fail
          go_loopw [63] (fun kv wr => ∃ (k : Nat), kv = .int .i64 (k : Int) ∧ Hid (k ≤ ln ∧ ∃ ms v F, Kp L N (o ++ [x]) F (fun i => ms.getD i 0) (rest.drop k) ∧ Oo W1 gm B (B + 1) N ms v F wr ∧ Ou B (B + 1) v (.slice a2 (n + 1) c2) (o ++ [x]) wr ∧ Hq F F.length)) (fun kv _ => ln + 1 - (intOf kv).toNat)
          case atStart => exact ⟨0, rfl, Nat.zero_le _, by rw [List.drop_zero]; exact H3.out⟩
          case round =>
            obtain ⟨k, rfl, HI⟩ := hrel
            obtain ⟨hk, ms, v, F, kp, oo, ou, hq2⟩ := HI.out
            have HQ2 : Hid (Hq F F.length) := hq2
            clear hq2
            by_cases hi : k < ln
            · obtain ⟨rl, r2, r3, r4, r5, r6, r7, r8, r9⟩ := HR.out
              obtain ⟨y, hy⟩ : ∃ y, rest[k]? = some y := ⟨_, List.getElem?_eq_getElem (by omega)⟩
              have hyN : y < N := r4 y (List.mem_of_getElem? hy)
              have hd : rest.drop k = y :: rest.drop (k + 1) := by
                rw [List.drop_eq_getElem_cons (by omega)]
                congr 1
                exact Option.some.inj ((List.getElem?_eq_getElem (by omega)).symm.trans hy)
              obtain ⟨bx, cx2, -, e, -, hc⟩ := own_at (((HO.out.1.below oo.b1).own x r9)) (by rw [r6]; omega)
              rw [r6, rl, r5] at e
              injection e with e1 e2 e3
              subst e1 e3
              have cy := hc k (by rw [r6]; omega)
              rw [r6, show rest.getD k 0 = y by simp [List.getD, hy]] at cy
              obtain ⟨cg, fg⟩ := oo.get y hyN
              have hy2 : (ms.set y (ms.getD y 0 - 1)).getD y 0 = ms.getD y 0 - 1 := getD_set_same ms y _ (by rw [oo.ml]; exact hyN)
              rw [hd] at kp
              obtain ⟨k1, k2, k3⟩ := kp.step (M' := fun i => (ms.set y (ms.getD y 0 - 1)).getD i 0) (by rw [← hd]; exact r3.sublist (List.drop_sublist _ _)) hyN hy2 (fun u _ hu => getD_set_ne ms y _ u hu)
              have os := oo.set y (ms.getD y 0 - 1)
              have us := ou.set oo y (.int .i64 ((ms.getD y 0 - 1 : Nat) : Int))
              have mb : ms.getD y 0 ≤ 1025 := by
                have h1 : ms.getD y 0 = _ := kp.ms y hyN
                have h2 := List.length_filter_le (fun b => !(o ++ [x]).contains b) (L y)
                have h3 := HL.out.2.2.1 y
                have h4 := HL.out.2.2.2.1
                rw [h1]
                split <;> omega
              have k1 : 1 ≤ ms.getD y 0 := k1
              obtain ⟨mv, hmv⟩ : ∃ u, ms.getD y 0 = u := ⟨_, rfl⟩
              obtain ⟨mw, hmw⟩ : ∃ u, ms.getD y 0 - 1 = u := ⟨_, rfl⟩
              rw [hmw] at os us hy2 k2 k3
              rw [hmv] at cg
              have wm : wrap64 ((mv : Int) - 1) = (mw : Int) := by unfold wrap64; omega
              obtain ⟨X1, hX1⟩ : ∃ X, wr.setCell ⟨gm, y, none⟩ (.int .i64 (mw : Int)) = X := ⟨_, rfl⟩
              rw [hX1] at os us
              have cs := (os.get y hyN).1
              rw [hy2] at cs
              have hi0 : (0 : Int) ≤ (k : Int) := by omega
              have hi1 : (k : Int) < (ln : Int) := by omega
              have y0 : (0 : Int) ≤ (y : Int) := by omega
              have y1 : (y : Int) < (N : Int) := by omega
              have w1' : wrap64 ((k : Int) + 1) = (k : Int) + 1 := by unfold wrap64; have := HL.out.2.2.2.1; omega
              have HF : Hid (F.length ≤ 1024) := by have := kp_len kp; have := HL.out.2.2.2.1; show F.length ≤ 1024; omega
              have HS : Hid (k < ln ∧ Oo W1 gm B (B + 1) N (ms.set y mw) v F X1 ∧ Ou B (B + 1) v (.slice a2 (n + 1) c2) (o ++ [x]) X1 ∧ (mw ≠ 0 → Kp L N (o ++ [x]) F (fun i => (ms.set y mw).getD i 0) (rest.drop (k + 1))) ∧ (mw = 0 → Kp L N (o ++ [x]) (F ++ [y]) (fun i => (ms.set y mw).getD i 0) (rest.drop (k + 1)))) := ⟨hi, os, us, fun q => k2 (by show (ms.set y mw).getD y 0 ≠ 0; rw [hy2]; exact q), fun q => k3 (by show (ms.set y mw).getD y 0 = 0; rw [hy2]; exact q)⟩
              clear hk kp oo ou HI rl r2 r3 r4 r5 r6 r7 r8 r9 hy hyN hd e2 hc hy2 k1 k2 k3 os us mb hmv hmw hi
              by_cases hm0 : mw = 0
              · subst hm0
                have hX1' : wr.setCell ⟨gm, y, none⟩ (.int .i64 0) = X1 := hX1
                have cs' : X1.cell? ⟨gm, y, none⟩ = some (.int .i64 0) := cs
                have wm' : wrap64 ((mv : Int) - 1) = 0 := wm
                clear hX1 cs wm
                have CP : Hid (Calls Try.prog 77 #[.iface 110 (.pointer (some ⟨B + 1, 0, none⟩)), .iface 3 (.int .i64 (y : Int))] X1 fun e w' => e = .returned (.tuple #[]) ∧ ∃ v' F', F'.Perm (F ++ [y]) ∧ Hq F' F'.length ∧ Hp (B + 1) v' F' w' ∧ Ch (B + 1) v v' X1 w') := push_ex X1 (B + 1) v F HS.out.2.1.hp (by have := HF.out; omega) HQ2.out y
                go_wp2_with fail
                with_reducible refine Calls.mono CP.out ?_
                rintro en X4 ⟨rfl, v4, F4, p4, q4, h4, c4⟩
                have HE : Hid (∃ ms v F, Kp L N (o ++ [x]) F (fun i => ms.getD i 0) (rest.drop (k + 1)) ∧ Oo W1 gm B (B + 1) N ms v F X4 ∧ Ou B (B + 1) v (.slice a2 (n + 1) c2) (o ++ [x]) X4 ∧ Hq F F.length) := ⟨_, v4, F4, (HS.out.2.2.2.2 (by first | rfl | trivial)).perm p4, HS.out.2.1.ch h4 c4, HS.out.2.2.1.ch c4, q4⟩
                clear p4 h4 c4 q4
                go_wp2_with fail
                go_roundw
                · exact ⟨k + 1, by go_num, HS.out.1, HE.out⟩
                · rw [w1']
                  exact meas ln k HS.out.1
              · have hm1 : ¬ ((mw : Int) = 0) := by omega
                go_wp2_with fail
                go_roundw
                · exact ⟨k + 1, by go_num, HS.out.1, _, v, F, HS.out.2.2.2.1 hm0, HS.out.2.1, HS.out.2.2.1, HQ2.out⟩
                · rw [w1']
                  exact meas ln k HS.out.1
            · have hi1 : ¬ ((k : Int) < (ln : Int)) := by omega
              have HE : Hid (∃ ms v F, Kn L N (o ++ [x]) F (fun i => ms.getD i 0) ∧ Oo W1 gm B (B + 1) N ms v F wr ∧ Ou B (B + 1) v (.slice a2 (n + 1) c2) (o ++ [x]) wr ∧ Hq F F.length) := by
                have e : rest.drop k = [] := List.drop_eq_nil_of_le (by have := HR.out.1; omega)
                rw [e] at kp
                exact ⟨ms, v, F, kp.done, oo, ou, HQ2.out⟩
              clear hk kp oo ou HI hi
              go_wp2_with fail
              go_roundw
              · obtain ⟨ms, v, F, h1, h2, h3, h4⟩ := HE.out
                exact ⟨a2, n + 1, c2, rfl, o ++ [x], ms, v, F, by rw [List.length_append, HR.out.2.2.2.2.2.2.2.1]; rfl, h1, h2, h3, HL2.out, h4⟩
              · exact meas2 N n HR.out.2.2.2.2.2.2.1
end
end Go.Proofs.Ytibhjkmbbfgnpaa
