/- JournalTorn: the law. -/
import Derived.Test.YtmjcjbkobinbhaaDoorJxA
namespace Go.Proofs.YtmjcjbkobinbhaaDoor
open Go.RowKit
open JM
set_option maxRecDepth 20000
namespace Dev
theorem tmod_L (r L : Nat) : (r : Int).tmod ((L : Int) + 1) = ((r % (L + 1) : Nat) : Int) := by
  rw [Int.tmod_eq_emod_of_nonneg (by omega)]
  simp
attribute [local go_sem ↓] Go.Proofs.YtmjcjbkobinbhaaDoor.toSlB in
set_option maxRecDepth 100000 in
set_option maxHeartbeats 3200000 in
theorem torn_any {us : Value} {ss : List (Bool × List (List Nat))} (W : World) (hS : Ss W us ss) (c : Int) (hT : Tc W) :
    Calls Tryd.prog 3 #[us, .int .i64 c] W fun e w' => e = .returned (.bool true) ∧ Below W.heap.size W w' := by
  obtain ⟨oa, cap, rfl⟩ := hS.sl
  have C1 := grown_any W hS hT
  obtain ⟨r, hr, hr2⟩ := and_exM c
  replace hT := mkHid hT
  clear hS
  go_enter Tryd.func3, Tryd.ntmps3
  go_wp2_with fail
  refine C1.mono ?_
  rintro e w1 ⟨live, gen, first, base, bs, x, cA, t4, t5, rfl, hD, h4, h5, fx, fo, hq⟩
  clear C1
  obtain ⟨g0, g1, e, -⟩ := id hD
  subst e
  obtain ⟨Ln, hLn⟩ : ∃ Ln, (journalw gen first base bs).length = Ln := ⟨_, rfl⟩
  obtain ⟨m, hm⟩ : ∃ m, r % (Ln + 1) = m := ⟨_, rfl⟩
  have hmL : m ≤ Ln := by have := Nat.mod_lt r (Nat.succ_pos Ln); rw [Nat.succ_eq_add_one, hm] at this; omega
  obtain ⟨w2, hw2⟩ : ∃ w2, (w1.alloc (.cells (dkA g0 x.1.1.length g1 x.2.1.length) 26)).alloc (.cells (styA live (journalw gen first base bs).length gen first t4 t5) 30) = w2 := ⟨_, rfl⟩
  have hLb : Ln ≤ 4194367 := by rw [← hLn]; exact hq.len
  obtain ⟨gl, m1, m2, m3, m4, m5⟩ := md_of (m := m) hq fx fo hD h4 h5 (by rw [hLn]; exact hmL) hw2
  obtain ⟨p4, q4, e4⟩ := h4.sl
  obtain ⟨p5, q5, e5⟩ := h5.sl
  subst e4 e5
  obtain ⟨o', sl1, sl2⟩ := cut_h m2 m (by rw [hLn]; exact hmL)
  rw [hLn] at m1 m2 m3 hw2 sl1
  unfold dkA styA at hw2
  unfold dkA styA
  rw [hLn]
  obtain ⟨n0, hn0⟩ : ∃ n0, x.1.1.length = n0 := ⟨_, rfl⟩
  obtain ⟨n1, hn1⟩ : ∃ n1, x.2.1.length = n1 := ⟨_, rfl⟩
  rw [hn0, hn1] at hw2
  rw [hn0, hn1]
  have htl : ((journalw gen first base bs).take m).length = m := by rw [List.length_take, hLn]; omega
  have u0 : w2.cell? ⟨w1.heap.size + 1, 0, none⟩ = some (.int .i64 (live : Int)) := (cell_of_row _ _ _ _ _ _ m3).trans rfl
  have hl0 : (0 : Int) ≤ (live : Int) := by omega
  have hl1 : (live : Int) < 2 := by have := hq.lv; omega
  have a1 : IntKind.i64.wrap ((Ln : Int) + 1) = (Ln : Int) + 1 := by rw [IntKind.wrap_i64]; omega
  have a2 : ¬ ((Ln : Int) + 1 = 0) := by omega
  have a3 : (r : Int).tmod ((Ln : Int) + 1) = (m : Int) := by rw [tmod_L, hm]
  have a4 : IntKind.i64.wrap (m : Int) = (m : Int) := by rw [IntKind.wrap_i64]; omega
  have hm0 : (0 : Int) ≤ (m : Int) := by omega
  have HQ := mkHid (And.intro hq (And.intro m2 (And.intro m3 (And.intro m4 (And.intro m5 (And.intro sl2 htl))))))
  replace hLn := mkHid hLn
  replace hm := mkHid hm
  clear hD h4 h5 fx fo hq m2 m3 m4 m5 hn0 hn1 sl2 htl
  go_upto_region 2 with fail
  try rw [hw2]
  obtain ⟨a, ha⟩ : ∃ a, w1.heap.size = a := ⟨_, rfl⟩
  rw [ha] at HQ u0 m1
  rw [ha]
  clear hw2 ha
  go_upto_region 6 with fail
  have u0d : w2.drew.cell? ⟨a + 1, 0, none⟩ = some (.int .i64 (live : Int)) := u0
  have C6 := copL_any w2.drew _ _ (HQ.out.2.2.2.2.2.1.below (below_drew w2)) (by rw [HQ.out.2.2.2.2.2.2]; unfold Go.Proofs.YtmjcjbkobinbhaaDoor.LIM; omega)
  rw [HQ.out.2.2.2.2.2.2, hLn.out] at C6
  have C6b : Calls Tryd.prog 5 #[.slice o' m Ln] w2.drew fun e w3 => e = .returned (.slice (some ⟨w2.heap.size, 0, none⟩) m m) ∧ (∃ vv, w3.cell? ⟨a, live, none⟩ = some vv) ∧ w3.frozen? ⟨a, live, none⟩ = false ∧ w3.cell? ⟨a + 1, 0, none⟩ = some (.int .i64 (live : Int)) ∧ (w3.setCell ⟨a, live, none⟩ (.slice (some ⟨w2.heap.size, 0, none⟩) m m)).cell? ⟨a + 1, 0, none⟩ = some (.int .i64 (live : Int)) ∧ ∃ v0 v1 l0 l1, Hid (Md W a (a + 1) live gen first base bs v0 v1 (.slice p4 base.length q4) (.slice p5 bs.length q5) l0 l1 (w3.setCell ⟨a, live, none⟩ (.slice (some ⟨w2.heap.size, 0, none⟩) m m)) ∧ ((live = 0 ∧ l0 = (journalw gen first base bs).take m ∧ l1 = []) ∨ (live = 1 ∧ l0 = [] ∧ l1 = (journalw gen first base bs).take m))) := by
    refine C6.mono ?_
    rintro e w3 ⟨rfl, hw3⟩
    obtain ⟨⟨cc1, cc2⟩, v0, v1, l0, l1, MD, hll⟩ := HQ.out.2.2.2.2.1 w3 hw3.symm
    refine ⟨rfl, cc1, cc2, ?_, (cell_of_row _ _ _ _ _ _ MD.rb).trans rfl, v0, v1, l0, l1, MD, hll⟩
    rw [hw3]
    exact cell_below ((below_drew w2).alloc (Nat.le_refl _) _) u0
  replace C6b := mkHid C6b
  clear C6
  go_region_held3 (fun w' => w'.cell? ⟨a + 1, 0, none⟩ = some (.int .i64 (live : Int))) (first | assumption | exact u0d | exact s3 | exact s4)
    (first
      | (go_at_call 5; with_reducible refine Calls.mono C6b.out ?_; rintro e w3 ⟨rfl, ⟨vv, cc1⟩, cc2, s3, s4, v0, v1, l0, l1, MD⟩))
  obtain ⟨w4, hw4⟩ : ∃ w4, w3.setCell ⟨a, live, none⟩ (.slice (some ⟨w2.heap.size, 0, none⟩) m m) = w4 := ⟨_, rfl⟩
  rw [hw4] at MD
  rw [hw4]
  clear hw4 s3 s4 cc1 cc2 C6b u0d u0 m1 sl1 hr a1 a2 a3 a4
  obtain ⟨MD, hll⟩ := MD.out
  obtain ⟨i0, j0, ev0⟩ := MD.h0.form
  obtain ⟨i1, j1, ev1⟩ := MD.h1.form
  subst ev0 ev1
  have hT4 : Tc w4 := hT.out.below MD.bel hT.out.sz
  have hq := HQ.out.1
  have hjl := journalw_len gen first base bs
  have hlen := hq.len
  have ca0 : w4.cell? ⟨a, 0, none⟩ = some (.slice i0 l0.length j0) := (cell_of_row _ _ _ _ _ _ MD.ra).trans rfl
  have ca1 : w4.cell? ⟨a, 1, none⟩ = some (.slice i1 l1.length j1) := (cell_of_row _ _ _ _ _ _ MD.ra).trans rfl
  obtain ⟨E, hE⟩ : ∃ E, 52 + sizes base = E := ⟨_, rfl⟩
  rcases rep_torn (m := m) hq (by rw [hLn.out]; exact hmL) hll with ⟨hlt, hrp⟩ | ⟨hge, k, pend, k1, k2, k3, hrp⟩
  · have C7 := replay_none w4 MD.h0 MD.h1 hT4 hrp
    have HM := mkHid (And.intro MD (And.intro hq (And.intro hjl hlen)))
    rw [hE] at hlt
    have hlt2 : (m : Int) < (E : Int) := by omega
    clear MD hll hT4 hrp hq hjl hlen hlt hLn hm HQ
    go_wp2_with fail
    refine C7.mono ?_
    rintro e w5 ⟨rfl, b5⟩
    clear C7
    obtain ⟨w6, hw6⟩ : ∃ w6, w5.alloc (.cells #[.int .i64 (-1), .int .i64 0, .int .i64 0, .int .i64 0, .slice none 0 0, .slice none 0 0] 30) = w6 := ⟨_, rfl⟩
    have b6 : Below w5.heap.size w5 w6 := by rw [← hw6]; exact (Below.refl _ w5).alloc (Nat.le_refl _) _
    have r9 : w6.heap[w5.heap.size]? = some (.cells #[.int .i64 (-1), .int .i64 0, .int .i64 0, .int .i64 0, .slice none 0 0, .slice none 0 0] 30 (0, 0)) := by rw [← hw6]; exact heap_alloc_new _ _
    have b46 : Below w4.heap.size w4 w6 := b5.trans (b6.mono b5.size)
    have bw : Below W.heap.size W w6 := HM.out.1.bel.trans (b46.mono HM.out.1.bel.size)
    have c94 : w6.cell? ⟨w5.heap.size, 0, none⟩ = some (.int .i64 (-1)) := (cell_of_row _ _ _ _ _ _ r9).trans rfl
    have c95 : w6.cell? ⟨w5.heap.size, 5, none⟩ = some (.slice none 0 0) := (cell_of_row _ _ _ _ _ _ r9).trans rfl
    have cb4 : w6.cell? ⟨a + 1, 4, none⟩ = some (.slice p4 base.length q4) := cell_below b46 ((cell_of_row _ _ _ _ _ _ HM.out.1.rb).trans rfl)
    have C8 := law_size true w6 (HM.out.1.ll.keep (stay_below b46)).lr (by have h1 := HM.out.2.2.1; have h2 := HM.out.2.2.2; omega)
    rw [show ((if true = true then 52 else 26) + sizes base) = E by rw [if_pos rfl]; exact hE] at C8
    have HW := mkHid bw
    replace hw6 := mkHid hw6
    clear b5 b6 r9 b46 bw hE HM
    go_upto_region 8 with fail
    rw [hw6.out]
    clear hw6 ca0 ca1
    go_wp2_with fail
    refine C8.mono ?_
    rintro e w7 ⟨rfl, hw7⟩
    subst hw7
    clear C8
    go_wp2_with fail
    go_ret
    exact ⟨rfl, HW.out⟩
  · have C7 := replay_story w4 MD.h0 MD.h1 hT4 hrp
    dsimp only at C7
    rw [hE] at C7 hge k2 k3
    obtain ⟨G, hG⟩ : ∃ G, E + bsizes (bs.take k) = G := ⟨_, rfl⟩
    rw [hG] at C7 k2
    have hlt2 : ¬ (m : Int) < (E : Int) := by omega
    have hme : ¬ m < E := by omega
    have HM := mkHid (And.intro MD (And.intro hq (And.intro hjl (And.intro hlen (And.intro hE (And.intro hG (And.intro k1 (And.intro k2 k3))))))))
    clear MD hll hT4 hrp hq hjl hlen hge hLn hm HQ hE hG k1 k2 k3
    go_wp2_with fail
    refine C7.mono ?_
    rintro e w5 ⟨x4, x5, rfl, f4, f5, b5⟩
    clear C7
    obtain ⟨o4, d4, ex4⟩ := f4.sl
    obtain ⟨o5, d5, ex5⟩ := f5.sl
    subst ex4 ex5
    have hkl : (bs.take k).length = k := by have := HM.out.2.2.2.2.2.2.1; rw [List.length_take]; omega
    rw [hkl] at f5
    rw [hkl]
    unfold styA
    obtain ⟨w6, hw6⟩ : ∃ w6, w5.alloc (.cells #[.int .i64 (live : Int), .int .i64 (G : Int), .int .i64 (gen : Int), .int .i64 (first : Int), .slice o4 base.length d4, .slice o5 k d5] 30) = w6 := ⟨_, rfl⟩
    have b6 : Below w5.heap.size w5 w6 := by rw [← hw6]; exact (Below.refl _ w5).alloc (Nat.le_refl _) _
    have r9 : w6.heap[w5.heap.size]? = some (.cells #[.int .i64 (live : Int), .int .i64 (G : Int), .int .i64 (gen : Int), .int .i64 (first : Int), .slice o4 base.length d4, .slice o5 k d5] 30 (0, 0)) := by rw [← hw6]; exact heap_alloc_new _ _
    have b46 : Below w4.heap.size w4 w6 := b5.trans (b6.mono b5.size)
    have bw : Below W.heap.size W w6 := HM.out.1.bel.trans (b46.mono HM.out.1.bel.size)
    obtain ⟨k9, hk9⟩ : ∃ k9, w5.heap.size = k9 := ⟨_, rfl⟩
    rw [hk9] at r9
    have rb6 := (b46.block _ (Array.getElem?_eq_some_iff.1 HM.out.1.rb).1).trans HM.out.1.rb
    have ll6 := HM.out.1.ll.keep (stay_below b46)
    have lb6 := HM.out.1.lb.keep (stay_below b46)
    have fl6 := f4.keep (stay_below b6)
    have fb6 := f5.keep (stay_below b6)
    have cb4 : w6.cell? ⟨a + 1, 4, none⟩ = some (.slice p4 base.length q4) := (cell_of_row _ _ _ _ _ _ rb6).trans rfl
    have cb5 : w6.cell? ⟨a + 1, 5, none⟩ = some (.slice p5 bs.length q5) := (cell_of_row _ _ _ _ _ _ rb6).trans rfl
    have C8 := law_size true w6 ll6.lr (by have h1 := HM.out.2.2.1; have h2 := HM.out.2.2.2.1; omega)
    rw [show ((if true = true then 52 else 26) + sizes base) = E by rw [if_pos rfl]; exact HM.out.2.2.2.2.1] at C8
    have HW := mkHid (And.intro bw (And.intro r9 (And.intro rb6 (And.intro ll6 (And.intro lb6 (And.intro fl6 fb6))))))
    replace hw6 := mkHid hw6
    clear b5 b6 r9 b46 bw rb6 ll6 lb6 fl6 fb6 f4 f5 hkl
    go_upto_region 8 with fail
    rw [hw6.out]
    clear hw6 ca0 ca1 hk9
    go_wp2_with fail
    refine C8.mono ?_
    rintro e w7 ⟨rfl, hw7⟩
    subst hw7
    clear C8
    go_wp2_with fail
    clear hlt2 hme
    go_loopw [14, 13] (fun nv ev wr => ∃ n z : Nat, nv = .int .i64 (n : Int) ∧ ev = .int .i64 (z : Int) ∧ Hid (n ≤ k ∧ z = E + bsizes (bs.take n) ∧ wr = w7)) (fun nv _ _ => k - (intOf nv).toNat)
    case atStart => exact ⟨0, E, rfl, rfl, Nat.zero_le _, by simp [bsizes], rfl⟩
    case round =>
      obtain ⟨n, z, rfl, rfl, HI⟩ := hrel
      have hwr := HI.out.2.2
      replace HI := mkHid (And.intro HI.out.1 HI.out.2.1)
      subst hwr
      have k1 := HM.out.2.2.2.2.2.2.1
      have k2 := HM.out.2.2.2.2.2.2.2.1
      have hGE := HM.out.2.2.2.2.2.1
      by_cases hlt : n < k
      · have hnb : n < bs.length := by omega
        obtain ⟨gB, cB, y, eB, yc, yl⟩ := HW.out.2.2.2.2.1.get hnb
        injection eB with eB el eC
        clear el
        subst eB eC
        obtain ⟨oy, cy, rfl⟩ := yl.sl
        obtain ⟨zz, hzz⟩ : ∃ zz, 26 + sizes bs[n] = zz := ⟨_, rfl⟩
        have hst := bsizes_take hnb
        rw [hzz] at hst
        have hmo := bsizes_mono (bs := bs) (n := n + 1) (k := k) (by omega) k1
        have hz := HI.out.2
        have hzm : z + zz ≤ m := by omega
        have C := law_size false wr yl.lr (by omega)
        rw [show ((if false = true then 52 else 26) + sizes bs[n]) = zz by rw [if_neg (by decide)]; exact hzz] at C
        obtain ⟨nn, hnn⟩ : ∃ nn, bs[n].length = nn := ⟨_, rfl⟩
        rw [hnn] at C yc
        have e1 : (n : Int) < (bs.length : Int) := by omega
        have e2 : (0 : Int) ≤ (n : Int) := by omega
        have e5 : (n : Int) < 1000 := by have := HM.out.2.1.f2; omega
        have e3 : IntKind.i64.wrap ((z : Int) + (zz : Int)) = ((z + zz : Nat) : Int) := by rw [IntKind.wrap_i64]; omega
        have e4 : ((z + zz : Nat) : Int) ≤ (m : Int) := by omega
        have HZ := mkHid (And.intro hst hz)
        replace e4 : (((z + zz : Nat) : Int) ≤ (m : Int)) := e4
        obtain ⟨zs, hzs⟩ : ∃ zs, z + zz = zs := ⟨_, rfl⟩
        rw [hzs] at e3 e4
        replace hzs := mkHid hzs
        clear yl hst hmo hz hzz hnn k1 k2 hGE hnb hzm
        go_wp2_with fail
        refine C.mono ?_
        rintro e w8 ⟨rfl, hw8⟩
        subst hw8
        go_wp2_with fail
        refine C.mono ?_
        rintro e w9 ⟨rfl, hw9⟩
        subst hw9
        clear C
        go_wp2_with fail
        exact ⟨⟨n + 1, zs, by simp, rfl, by omega, by rw [HZ.out.1, ← hzs.out, HZ.out.2]; omega, trivial⟩, by simp only [intOf]; omega⟩
      · obtain rfl : n = k := by have := HI.out.1; omega
        obtain rfl : z = G := by rw [HI.out.2, hGE]
        have rk := HW.out.2.1
        have rb := HW.out.2.2.1
        have v0 : wr.cell? ⟨k9, 0, none⟩ = some (.int .i64 (live : Int)) := (cell_of_row _ _ _ _ _ _ rk).trans rfl
        have v1 : wr.cell? ⟨k9, 1, none⟩ = some (.int .i64 (z : Int)) := (cell_of_row _ _ _ _ _ _ rk).trans rfl
        have v2 : wr.cell? ⟨k9, 2, none⟩ = some (.int .i64 (gen : Int)) := (cell_of_row _ _ _ _ _ _ rk).trans rfl
        have v3 : wr.cell? ⟨k9, 3, none⟩ = some (.int .i64 (first : Int)) := (cell_of_row _ _ _ _ _ _ rk).trans rfl
        have v4 : wr.cell? ⟨k9, 4, none⟩ = some (.slice o4 base.length d4) := (cell_of_row _ _ _ _ _ _ rk).trans rfl
        have v5 : wr.cell? ⟨k9, 5, none⟩ = some (.slice o5 n d5) := (cell_of_row _ _ _ _ _ _ rk).trans rfl
        have u0 : wr.cell? ⟨a + 1, 0, none⟩ = some (.int .i64 (live : Int)) := (cell_of_row _ _ _ _ _ _ rb).trans rfl
        have u2 : wr.cell? ⟨a + 1, 2, none⟩ = some (.int .i64 (gen : Int)) := (cell_of_row _ _ _ _ _ _ rb).trans rfl
        have u3 : wr.cell? ⟨a + 1, 3, none⟩ = some (.int .i64 (first : Int)) := (cell_of_row _ _ _ _ _ _ rb).trans rfl
        have C17 := sameLists_eq wr HW.out.2.2.2.2.2.1 HW.out.2.2.2.1 (by have := HM.out.2.1.gb.n; omega)
        clear rk rb
        rcases Nat.lt_or_ge n bs.length with hnb | hnb
        · obtain ⟨gB, cB, y, eB, yc, yl⟩ := HW.out.2.2.2.2.1.get hnb
          injection eB with eB el eC
          clear el
          subst eB eC
          obtain ⟨oy, cy, rfl⟩ := yl.sl
          obtain ⟨zz, hzz⟩ : ∃ zz, 26 + sizes bs[n] = zz := ⟨_, rfl⟩
          have hst := bsizes_take hnb
          rw [hzz] at hst
          have k3 := HM.out.2.2.2.2.2.2.2.2 hnb
          have hz := HI.out.2
          have hjl := HM.out.2.2.1
          have hjb := HM.out.2.2.2.1
          have hE := HM.out.2.2.2.2.1
          have hmo := bsizes_mono (bs := bs) (n := n + 1) (k := bs.length) hnb (Nat.le_refl _)
          rw [List.take_length] at hmo
          have hzm : ¬ z + zz ≤ m := by omega
          have C := law_size false wr yl.lr (by omega)
          rw [show ((if false = true then 52 else 26) + sizes bs[n]) = zz by rw [if_neg (by decide)]; exact hzz] at C
          obtain ⟨nn, hnn⟩ : ∃ nn, bs[n].length = nn := ⟨_, rfl⟩
          rw [hnn] at C yc
          have e1 : (n : Int) < (bs.length : Int) := by omega
          have e2 : (0 : Int) ≤ (n : Int) := by omega
          have e3 : IntKind.i64.wrap ((z : Int) + (zz : Int)) = ((z + zz : Nat) : Int) := by rw [IntKind.wrap_i64]; omega
          have e4 : ¬ ((z + zz : Nat) : Int) ≤ (m : Int) := by omega
          obtain ⟨zs, hzs⟩ : ∃ zs, z + zz = zs := ⟨_, rfl⟩
          rw [hzs] at e3 e4
          have e6 : ¬ zs ≤ m := by omega
          replace hzs := mkHid hzs
          clear yl hst hmo hz hzz hnn k1 k2 k3 hGE hnb hzm hjl hjb hE
          go_wp2_with fail
          refine C.mono ?_
          rintro e w8 ⟨rfl, hw8⟩
          subst hw8
          clear C
          go_wp2_with fail
          clear yc e1 e2 e3 e4 e6
          refine C17.mono ?_
          rintro e w9 ⟨rfl, mm9, hw9⟩
          clear C17
          have v5b : w9.cell? ⟨k9, 5, none⟩ = some (.slice o5 n d5) := by rw [hw9]; exact cell_below (below_drewN (Below.refl _ _) _) v5
          replace hw9 := mkHid hw9
          go_wp2_with fail
          clear v5b
          go_loopw [15] (fun iv wq => ∃ i : Nat, iv = .int .i64 (i : Int) ∧ i ≤ n ∧ Hid (∃ mm, wq = w8.drewN mm)) (fun iv _ => n - (intOf iv).toNat)
          case atStart => exact ⟨0, rfl, Nat.zero_le _, mm9, hw9.out⟩
          case round =>
            obtain ⟨i, rfl, hi, HI2⟩ := hrel
            obtain ⟨mm, hmm⟩ := HI2.out
            have bq : Below w8.heap.size w8 wr.drew := by rw [hmm]; exact below_drewN (Below.refl _ _) (mm + 1)
            have bq0 : Below w8.heap.size w8 wr := by rw [hmm]; exact below_drewN (Below.refl _ _) mm
            by_cases hlt : i < n
            · have k1 := HM.out.2.2.2.2.2.2.1
              have hib : i < bs.length := by omega
              have hkl : (bs.take n).length = n := by rw [List.length_take]; omega
              obtain ⟨gC, cC, y2, eC, yc2, yl2⟩ := HW.out.2.2.2.2.1.get hib
              obtain ⟨gT, cT, x2, eT, xc2, xl2⟩ := HW.out.2.2.2.2.2.2.get (i := i) (by omega)
              rw [hkl] at eT
              rw [show (bs.take n)[i]'(by omega) = bs[i] from List.getElem_take] at xl2
              have s1 : wr.drew.cell? ⟨k9, 5, none⟩ = some (.slice (some ⟨gT, 0, none⟩) n cT) := cell_below bq (by rw [← eT]; exact v5)
              have s2 : wr.drew.cell? ⟨a + 1, 5, none⟩ = some (.slice (some ⟨gC, 0, none⟩) bs.length cC) := cell_below bq (by rw [← eC]; exact cb5)
              have s3 := cell_below bq xc2
              have s4 := cell_below bq yc2
              have CS := sameLists_eq wr.drew (xl2.keep (stay_below bq)) (yl2.keep (stay_below bq)) (by have := (HM.out.2.1.gs bs[i] (List.getElem_mem hib)).n; omega)
              obtain ⟨ox, cx, rfl⟩ := xl2.sl
              obtain ⟨oz, cz, rfl⟩ := yl2.sl
              obtain ⟨nl, hnl⟩ : ∃ nl, bs[i].length = nl := ⟨_, rfl⟩
              rw [hnl] at s3 s4 CS
              have t1 : (i : Int) < (n : Int) := by omega
              have t2 : (0 : Int) ≤ (i : Int) := by omega
              have t3 : (i : Int) < (bs.length : Int) := by omega
              have t4 : (i : Int) < 1000 := by have := HM.out.2.1.f2; omega
              replace CS := mkHid CS
              have HSE : Hid (∀ wA mA, wA = wr.drew.drewN mA → wA.cell? ⟨k9, 5, none⟩ = some (.slice (some ⟨gT, 0, none⟩) n cT) ∧ wA.cell? ⟨a + 1, 5, none⟩ = some (.slice (some ⟨gC, 0, none⟩) bs.length cC) ∧ wA.cell? ⟨gT, i, none⟩ = some (.slice ox nl cx) ∧ wA.cell? ⟨gC, i, none⟩ = some (.slice oz nl cz)) := by
                intro wA mA h
                have hb : Below wr.drew.heap.size wr.drew wA := by rw [h]; exact below_drewN (Below.refl _ _) _
                exact ⟨cell_below hb s1, cell_below hb s2, cell_below hb s3, cell_below hb s4⟩
              replace hmm := mkHid hmm
              clear xl2 yl2 xc2 yc2 hnl eC eT bq bq0 k1 hib hkl
              go_upto_region 22 with fail
              go_region_held3 (fun w' => w'.cell? ⟨k9, 5, none⟩ = some (.slice (some ⟨gT, 0, none⟩) n cT) ∧ w'.cell? ⟨a + 1, 5, none⟩ = some (.slice (some ⟨gC, 0, none⟩) bs.length cC) ∧ w'.cell? ⟨gT, i, none⟩ = some (.slice ox nl cx) ∧ w'.cell? ⟨gC, i, none⟩ = some (.slice oz nl cz)) (first | assumption | exact ⟨s1, s2, s3, s4⟩ | exact sE)
                (first
                  | (go_at_call 8; with_reducible refine Calls.mono CS.out ?_; rintro e wA ⟨rfl, mA, hA⟩; have sE := HSE.out wA mA hA; replace hA := mkHid hA))
              clear sE s1 s2 s3 s4 CS
              go_wp2_with fail
              have hfin : ∃ q, wA = w8.drewN q := ⟨mm + (1 + mA), by rw [hA.out, hmm.out]; show ((w8.drewN mm).drewN 1).drewN mA = _; rw [World.drewN_drewN, World.drewN_drewN]⟩
              exact ⟨⟨i + 1, by simp, by omega, hfin⟩, by simp only [intOf]; omega⟩
            · obtain rfl : i = n := by omega
              have hni : ¬ (i : Int) < (i : Int) := by omega
              have bW := HW.out.1.trans (bq0.mono HW.out.1.size)
              clear bq bq0 hmm
              go_wp2_with fail
              go_ret
              exact ⟨rfl, bW⟩
        · have e1 : ¬ (n : Int) < (bs.length : Int) := by omega
          have e6 : ¬ n < bs.length := by omega
          clear k1 k2 hGE hnb
          go_wp2_with fail
          clear e1 e6
          obtain ⟨w8, hw8⟩ : ∃ w8, w8 = wr := ⟨_, rfl⟩
          subst hw8
          refine C17.mono ?_
          rintro e w9 ⟨rfl, mm9, hw9⟩
          clear C17
          have v5b : w9.cell? ⟨k9, 5, none⟩ = some (.slice o5 n d5) := by rw [hw9]; exact cell_below (below_drewN (Below.refl _ _) _) v5
          replace hw9 := mkHid hw9
          go_wp2_with fail
          clear v5b
          go_loopw [15] (fun iv wq => ∃ i : Nat, iv = .int .i64 (i : Int) ∧ i ≤ n ∧ Hid (∃ mm, wq = w8.drewN mm)) (fun iv _ => n - (intOf iv).toNat)
          case atStart => exact ⟨0, rfl, Nat.zero_le _, mm9, hw9.out⟩
          case round =>
            obtain ⟨i, rfl, hi, HI2⟩ := hrel
            obtain ⟨mm, hmm⟩ := HI2.out
            have bq : Below w8.heap.size w8 wr.drew := by rw [hmm]; exact below_drewN (Below.refl _ _) (mm + 1)
            have bq0 : Below w8.heap.size w8 wr := by rw [hmm]; exact below_drewN (Below.refl _ _) mm
            by_cases hlt : i < n
            · have k1 := HM.out.2.2.2.2.2.2.1
              have hib : i < bs.length := by omega
              have hkl : (bs.take n).length = n := by rw [List.length_take]; omega
              obtain ⟨gC, cC, y2, eC, yc2, yl2⟩ := HW.out.2.2.2.2.1.get hib
              obtain ⟨gT, cT, x2, eT, xc2, xl2⟩ := HW.out.2.2.2.2.2.2.get (i := i) (by omega)
              rw [hkl] at eT
              rw [show (bs.take n)[i]'(by omega) = bs[i] from List.getElem_take] at xl2
              have s1 : wr.drew.cell? ⟨k9, 5, none⟩ = some (.slice (some ⟨gT, 0, none⟩) n cT) := cell_below bq (by rw [← eT]; exact v5)
              have s2 : wr.drew.cell? ⟨a + 1, 5, none⟩ = some (.slice (some ⟨gC, 0, none⟩) bs.length cC) := cell_below bq (by rw [← eC]; exact cb5)
              have s3 := cell_below bq xc2
              have s4 := cell_below bq yc2
              have CS := sameLists_eq wr.drew (xl2.keep (stay_below bq)) (yl2.keep (stay_below bq)) (by have := (HM.out.2.1.gs bs[i] (List.getElem_mem hib)).n; omega)
              obtain ⟨ox, cx, rfl⟩ := xl2.sl
              obtain ⟨oz, cz, rfl⟩ := yl2.sl
              obtain ⟨nl, hnl⟩ : ∃ nl, bs[i].length = nl := ⟨_, rfl⟩
              rw [hnl] at s3 s4 CS
              have t1 : (i : Int) < (n : Int) := by omega
              have t2 : (0 : Int) ≤ (i : Int) := by omega
              have t3 : (i : Int) < (bs.length : Int) := by omega
              have t4 : (i : Int) < 1000 := by have := HM.out.2.1.f2; omega
              replace CS := mkHid CS
              have HSE : Hid (∀ wA mA, wA = wr.drew.drewN mA → wA.cell? ⟨k9, 5, none⟩ = some (.slice (some ⟨gT, 0, none⟩) n cT) ∧ wA.cell? ⟨a + 1, 5, none⟩ = some (.slice (some ⟨gC, 0, none⟩) bs.length cC) ∧ wA.cell? ⟨gT, i, none⟩ = some (.slice ox nl cx) ∧ wA.cell? ⟨gC, i, none⟩ = some (.slice oz nl cz)) := by
                intro wA mA h
                have hb : Below wr.drew.heap.size wr.drew wA := by rw [h]; exact below_drewN (Below.refl _ _) _
                exact ⟨cell_below hb s1, cell_below hb s2, cell_below hb s3, cell_below hb s4⟩
              replace hmm := mkHid hmm
              clear xl2 yl2 xc2 yc2 hnl eC eT bq bq0 k1 hib hkl
              go_upto_region 22 with fail
              go_region_held3 (fun w' => w'.cell? ⟨k9, 5, none⟩ = some (.slice (some ⟨gT, 0, none⟩) n cT) ∧ w'.cell? ⟨a + 1, 5, none⟩ = some (.slice (some ⟨gC, 0, none⟩) bs.length cC) ∧ w'.cell? ⟨gT, i, none⟩ = some (.slice ox nl cx) ∧ w'.cell? ⟨gC, i, none⟩ = some (.slice oz nl cz)) (first | assumption | exact ⟨s1, s2, s3, s4⟩ | exact sE)
                (first
                  | (go_at_call 8; with_reducible refine Calls.mono CS.out ?_; rintro e wA ⟨rfl, mA, hA⟩; have sE := HSE.out wA mA hA; replace hA := mkHid hA))
              clear sE s1 s2 s3 s4 CS
              go_wp2_with fail
              have hfin : ∃ q, wA = w8.drewN q := ⟨mm + (1 + mA), by rw [hA.out, hmm.out]; show ((w8.drewN mm).drewN 1).drewN mA = _; rw [World.drewN_drewN, World.drewN_drewN]⟩
              exact ⟨⟨i + 1, by simp, by omega, hfin⟩, by simp only [intOf]; omega⟩
            · obtain rfl : i = n := by omega
              have hni : ¬ (i : Int) < (i : Int) := by omega
              have bW := HW.out.1.trans (bq0.mono HW.out.1.size)
              clear bq bq0 hmm
              go_wp2_with fail
              go_ret
              exact ⟨rfl, bW⟩
end Dev
end Go.Proofs.YtmjcjbkobinbhaaDoor
