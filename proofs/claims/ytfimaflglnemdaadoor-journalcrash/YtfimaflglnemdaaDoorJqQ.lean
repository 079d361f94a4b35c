/- Several texts in one: JcE, JcF, JcG, JcH, JcI, JcJ. -/
import Derived.Test.YtfimaflglnemdaaDoorJqP
/- JournalCrash: a journal with its device's whole history, by what stands in it, whatever its limit. -/
namespace Go.Proofs.YtfimaflglnemdaaDoor
open Go.RowKit
open JM
set_option maxRecDepth 20000
namespace Dev
theorem Jh.free [Inhabited HoleT] {lo j v lim live gen last : Nat} {W W' : World} {sp : List Sp} (h : Jh lo W j v lim live gen last sp) (hf : Fre W W') : Jh lo W' j v lim live gen last sp := by
  obtain ⟨lv, f, ms, h1⟩ := h.dv
  exact ⟨⟨lv, f, ms, h1.free hf⟩, hf.row h.row (.inr (.inr (.inr rfl))), h.hole, Nat.le_trans h.hlo hf.size, h.loj, h.big, h.live1⟩
namespace Cr
/-- A journal, by what stands in it, with all moments of its device. -/
structure Jc [Inhabited HoleT] (lo : Nat) (W : World) (j v lim live gen first N : Nat) (base : List (List Nat)) (bs : List (List (List Nat))) (sp : List Sp) : Prop where
  jh : Jh lo W j v lim live gen (first - 1 + bs.length) sp
  last : ∃ pre z, sp = pre ++ [z] ∧ Cln live gen first base bs z
  len : (journalw gen first base bs).length ≤ 4194367
  lim0 : 64 ≤ lim
  lim1 : lim ≤ 4194367
  gN : gen ≤ N
  fN : first + bs.length ≤ N
  nN : N ≤ 900000
  tc : Tc W
  c0 : 0 < lo
  cnt : sp.length ≤ 900000
theorem Cln.lim {live gen first : Nat} {base : List (List Nat)} {bs : List (List (List Nat))} {z : Sp} (h : Cln live gen first base bs z) (hl : (journalw gen first base bs).length ≤ 4194367) : Lim z :=
  Lim.of h.lv (by rw [h.fl1]; exact hl) (by rw [h.fl2]; exact Nat.zero_le _)
section
variable [Inhabited HoleT] {lo j v lim live gen first N B : Nat} {W W' : World} {base : List (List Nat)} {bs : List (List (List Nat))} {sp : List Sp} {u : Value} {ls : List (List Nat)}
theorem Jc.hlo (h : Jc lo W j v lim live gen first N base bs sp) : lo ≤ W.heap.size := h.jh.hlo
theorem Jc.below (h : Jc lo W j v lim live gen first N base bs sp) (hb : Below W.heap.size W W') : Jc lo W' j v lim live gen first N base bs sp :=
  ⟨h.jh.below hb, h.last, h.len, h.lim0, h.lim1, h.gN, h.fN, h.nN, h.tc.below hb h.tc.sz, h.c0, h.cnt⟩
theorem Jc.free (h : Jc lo W j v lim live gen first N base bs sp) (hf : Fre W W') (ht : Tc W') : Jc lo W' j v lim live gen first N base bs sp :=
  ⟨h.jh.free hf, h.last, h.len, h.lim0, h.lim1, h.gN, h.fN, h.nN, ht, h.c0, h.cnt⟩
theorem Jc.mono (h : Jc lo W j v lim live gen first N base bs sp) {M : Nat} (hM : N ≤ M) (hM2 : M ≤ 900000) : Jc lo W j v lim live gen first M base bs sp :=
  ⟨h.jh, h.last, h.len, h.lim0, h.lim1, Nat.le_trans h.gN hM, Nat.le_trans h.fN hM, hM2, h.tc, h.c0, h.cnt⟩
theorem Jc.jn (h : Jc lo W j v lim live gen first N base bs sp) : ∃ pre z, sp = pre ++ [z] ∧ Cln live gen first base bs z ∧ Jn lo W j v lim live gen (first - 1 + bs.length) pre.length z ∧ Jh lo W j v lim live gen (first - 1 + bs.length) (pre ++ [z]) := by
  obtain ⟨pre, z, rfl, hz⟩ := h.last
  exact ⟨pre, z, rfl, hz, h.jh.jn, h.jh⟩
theorem Jc.room (h : Jc lo W j v lim live gen first N base bs sp) :
    Calls Tryd.prog 21 #[.pointer (some ⟨j, 0, none⟩)] W fun e w' => e = .returned (.int .i64 ((lim - (journalw gen first base bs).length : Nat) : Int)) ∧ Below W.heap.size W w' := by
  obtain ⟨pre, z, -, hz, h1, -⟩ := h.jn
  have hl := h.len
  have hl1 := h.lim1
  have := Room_any h1 (by omega) (by rw [hz.fl1]; show (journalw gen first base bs).length ≤ _; omega)
  rw [hz.fl1] at this
  exact this
theorem Jc.lastly (h : Jc lo W j v lim live gen first N base bs sp) : Calls Tryd.prog 17 #[.pointer (some ⟨j, 0, none⟩)] W fun e w' => e = .returned (.int .i64 ((first - 1 + bs.length : Nat) : Int)) ∧ w' = W := by
  obtain ⟨pre, z, -, -, h1, -⟩ := h.jn
  exact Last_any h1
theorem Jc.commit_full (h : Jc lo W j v lim live gen first N base bs sp) (hu : Ll B W u ls) (hg : Gl ls) (hs : sizes ls < 70000000) (hfit : ¬ (journalw gen first base bs).length + (26 + sizes ls) ≤ lim) :
    Calls Tryd.prog 16 #[.pointer (some ⟨j, 0, none⟩), u] W fun e w' => e = .returned (.tuple #[.int .i64 0, .int .i64 5]) ∧ Below W.heap.size W w' := by
  obtain ⟨pre, z, -, hz, h1, -⟩ := h.jn
  have hl := h.len
  have hf := h.fN
  have hn := h.nN
  have hf1 := hz.f1
  exact Commit_full h1 hu hg (by omega) hs (by rw [hz.fl1]; show (journalw gen first base bs).length ≤ _; omega) (by rw [hz.fl1]; exact hfit)
theorem Jc.compact_full (h : Jc lo W j v lim live gen first N base bs sp) (hu : Ll B W u ls) (hg : Gl ls) (hs : sizes ls < 70000000) (hfit : ¬ 52 + sizes ls ≤ lim) :
    Calls Tryd.prog 23 #[.pointer (some ⟨j, 0, none⟩), u] W fun e w' => e = .returned (.int .i64 5) ∧ Below W.heap.size W w' := by
  obtain ⟨pre, z, -, hz, h1, -⟩ := h.jn
  have hf := h.fN
  have hgN := h.gN
  have hn := h.nN
  have hlv := hz.lv
  exact Compact_full h1 (o := 1 - live) (by omega) (by omega) hu hg (by omega) (by omega) hs (by rw [hz.fl2]) hfit
/-- What a commit leaves, moment by moment. -/
theorem Jc.commit (h : Jc lo W j v lim live gen first N base bs sp) (hu : Ll B W u ls) (hg : Gl ls) (hs : sizes ls < 70000000) (hfit : (journalw gen first base bs).length + (26 + sizes ls) ≤ lim) (hN : first + bs.length + 1 ≤ N) (hc : sp.length + 3 ≤ 900000) :
    Calls Tryd.prog 16 #[.pointer (some ⟨j, 0, none⟩), u] W fun e w' => ∃ L, e = .returned (.tuple #[.int .i64 ((first - 1 + (bs ++ [ls]).length : Nat) : Int), .int .i64 0]) ∧ Jc lo w' j v lim live gen first N base (bs ++ [ls]) (sp ++ L) ∧ Few L ∧ (∀ z ∈ L, ∀ k0 k1, Dsk N ⟨base, bs, first - 1 + bs.length⟩ (crash z k0 k1) ∨ Dsk N ⟨base, bs ++ [ls], first - 1 + (bs ++ [ls]).length⟩ (crash z k0 k1)) ∧ Fo lo W w' := by
  obtain ⟨pre, z, rfl, hz, h1, h2⟩ := h.jn
  have hl := h.len
  have hl1 := h.lim1
  have hn := h.nN
  have hf1 := hz.f1
  rw [List.length_append, List.length_singleton] at hc
  have hj : journalw gen first base bs ++ batchw (first - 1 + bs.length + 1) ls = journalw gen first base (bs ++ [ls]) := by
    rw [journalw_snoc, show first - 1 + bs.length + 1 = first + bs.length by omega]
  refine (Commit_hist h2 hu hg h.tc h.c0 (by omega) hs (by rw [hz.fl1]; show (journalw gen first base bs).length ≤ _; omega) (by omega) (by rw [hz.fl1]; exact hfit) (by omega)).mono ?_
  rintro e w' ⟨e1, e2, e3⟩
  rw [hz.fl1] at e2
  dsimp only at e2
  rw [hj] at e2
  have he : first - 1 + (bs ++ [ls]).length = first - 1 + bs.length + 1 := by simp; omega
  have hc2 := hz.commit2 hg (by omega) (s := (journalw gen first base bs).length)
  have hb : (journalw gen first base (bs ++ [ls])).length ≤ 4194367 := by
    rw [journalw_snoc, List.length_append, batchw_len]
    omega
  have hfw : ∀ q ∈ [up z live (journalw gen first base (bs ++ [ls]), (journalw gen first base bs).length), up (up z live (journalw gen first base (bs ++ [ls]), (journalw gen first base bs).length)) live (journalw gen first base (bs ++ [ls]), (journalw gen first base (bs ++ [ls])).length)], Lim q := fun q hq => by
    have hz0 := hz.lim hl
    simp only [List.mem_cons, List.not_mem_nil, or_false] at hq
    rcases hq with rfl | rfl
    · exact hz0.up live hb
    · exact (hz0.up live hb).up live hb
  refine ⟨[up z live (journalw gen first base (bs ++ [ls]), (journalw gen first base bs).length), up (up z live (journalw gen first base (bs ++ [ls]), (journalw gen first base bs).length)) live (journalw gen first base (bs ++ [ls]), (journalw gen first base (bs ++ [ls])).length)], by rw [e1, he], ⟨?_, ⟨pre ++ [z] ++ [up z live (journalw gen first base (bs ++ [ls]), (journalw gen first base bs).length)], _, by simp, hc2⟩, ?_, h.lim0, h.lim1, h.gN, by simp; omega, hn, h.tc.below (e3.below h.hlo) h.c0, h.c0, by simp; omega⟩, ⟨by simp, hfw⟩, fun y hy k0 k1 => ?_, e3⟩
  · rw [he]
    simpa using e2
  · rw [journalw_snoc, List.length_append, batchw_len]
    omega
  · simp only [List.mem_cons, List.not_mem_nil, or_false] at hy
    rcases hy with rfl | rfl
    · exact hz.commit1 hg h.gN hN k0 k1
    · exact .inr (hc2.dsk h.gN (by simp; omega) k0 k1)
/-- What a compaction leaves, moment by moment. -/
theorem Jc.compact (h : Jc lo W j v lim live gen first N base bs sp) (hu : Ll B W u ls) (hg : Gl ls) (hs : sizes ls < 70000000) (hfit : 52 + sizes ls ≤ lim) (hN : gen + 1 ≤ N) (hc : sp.length + 3 ≤ 900000) :
    Calls Tryd.prog 23 #[.pointer (some ⟨j, 0, none⟩), u] W fun e w' => ∃ L, e = .returned (.int .i64 0) ∧ Jc lo w' j v lim (1 - live) (gen + 1) (first + bs.length) N ls [] (sp ++ L) ∧ Few L ∧ (∀ z ∈ L, ∀ k0 k1, Dsk N ⟨base, bs, first - 1 + bs.length⟩ (crash z k0 k1) ∨ Dsk N ⟨ls, [], first - 1 + bs.length⟩ (crash z k0 k1)) ∧ Fo lo W w' := by
  obtain ⟨pre, z, rfl, hz, h1, h2⟩ := h.jn
  have hl := h.len
  have hl1 := h.lim1
  have hn := h.nN
  have hfN := h.fN
  have hf1 := hz.f1
  have hlv := hz.lv
  rw [List.length_append, List.length_singleton] at hc
  refine (Compact_hist h2 (o := 1 - live) (by omega) (by omega) hu hg h.tc h.c0 (by omega) (by omega) hs (by rw [hz.fl2]) (by omega) hfit (by omega)).mono ?_
  rintro e w' ⟨e1, e2, e3⟩
  rw [hz.fl2, show first - 1 + bs.length + 1 = first + bs.length by omega] at e2
  dsimp only at e2
  have hc3 := hz.compact3 hg (by omega)
  have he : first + bs.length - 1 + ([] : List (List (List Nat))).length = first - 1 + bs.length := by simp; omega
  have hb : (basew (gen + 1) (first + bs.length) ls).length ≤ 4194367 := by
    rw [basew_len]
    omega
  have hfw : ∀ q ∈ [up z (1 - live) (basew (gen + 1) (first + bs.length) ls, 0), up z (1 - live) (basew (gen + 1) (first + bs.length) ls, (basew (gen + 1) (first + bs.length) ls).length), up (up z (1 - live) (basew (gen + 1) (first + bs.length) ls, (basew (gen + 1) (first + bs.length) ls).length)) live ([], 0)], Lim q := fun q hq => by
    have hz0 := hz.lim hl
    simp only [List.mem_cons, List.not_mem_nil, or_false] at hq
    rcases hq with rfl | rfl | rfl
    · exact hz0.up _ hb
    · exact hz0.up _ hb
    · exact (hz0.up _ hb).up _ (Nat.zero_le _)
  refine ⟨[up z (1 - live) (basew (gen + 1) (first + bs.length) ls, 0), up z (1 - live) (basew (gen + 1) (first + bs.length) ls, (basew (gen + 1) (first + bs.length) ls).length), up (up z (1 - live) (basew (gen + 1) (first + bs.length) ls, (basew (gen + 1) (first + bs.length) ls).length)) live ([], 0)], e1, ⟨?_, ⟨pre ++ [z] ++ [up z (1 - live) (basew (gen + 1) (first + bs.length) ls, 0), up z (1 - live) (basew (gen + 1) (first + bs.length) ls, (basew (gen + 1) (first + bs.length) ls).length)], _, by simp, hc3⟩, ?_, h.lim0, h.lim1, hN, by simpa using hfN, hn, h.tc.below (e3.below h.hlo) h.c0, h.c0, by simp; omega⟩, ⟨by simp, hfw⟩, fun y hy k0 k1 => ?_, e3⟩
  · rw [he]
    simpa using e2
  · rw [journalw_nil, basew_len]
    omega
  · simp only [List.mem_cons, List.not_mem_nil, or_false] at hy
    rcases hy with rfl | rfl | rfl
    · exact hz.compact1 hg hN hfN k0 k1
    · exact .inr (hz.compact2 hg hN hfN k0 k1)
    · have q := hc3.dsk hN (by simpa using hfN) k0 k1
      rw [he] at q
      exact .inr q
theorem Opd.jc {pre L : List Sp} {x : Sp} {b : Bk} (o : Opd N b live gen first x L) (h : Jh lo W j v lim live gen b.last (pre ++ [x] ++ L)) (hlen : (journalw gen first b.base b.batches).length ≤ 4194367) (hl0 : 64 ≤ lim) (hl1 : lim ≤ 4194367) (hN : N ≤ 900000) (ht : Tc W) (hc0 : 0 < lo) (hcnt : (pre ++ [x] ++ L).length ≤ 900000) : Jc lo W j v lim live gen first N b.base b.batches (pre ++ [x] ++ L) := by
  obtain ⟨z, p, e, hz⟩ := o.last
  refine ⟨by rw [← o.book]; exact h, ⟨pre ++ p, z, ?_, hz⟩, hlen, hl0, hl1, o.gN, o.fN, hN, ht, hc0, hcnt⟩
  rw [List.append_assoc, List.append_assoc, ← e]
  rfl
end
end Cr
end Dev
end Go.Proofs.YtfimaflglnemdaaDoor

/- JournalCrash: the law's does, with the moments: what is done. -/
namespace Go.Proofs.YtfimaflglnemdaaDoor
open Go.RowKit
open JM
set_option maxRecDepth 20000
namespace Dev
section
variable [Inhabited HoleT] {lo j v lim live gen first N : Nat} {W : World} {base : List (List Nat)} {bs : List (List (List Nat))} {sp : List Sp}
attribute [local go_sem ↓] toStBk toLdBk in
set_option maxRecDepth 100000 in
set_option maxHeartbeats 3200000 in
theorem does_compactH {u0 u1 uL : Value} {ls : List (List Nat)} {last : Nat} (h : Cr.Jc lo W j v lim live gen first N base bs sp) (hL : Lr W uL ls) (hLl : ∀ x ∈ ls, x.length ≤ Go.Proofs.YtfimaflglnemdaaDoor.LIM) (hfit : 52 + sizes (sho ls) ≤ lim) (hN : gen + 1 ≤ N) (hc : sp.length + 3 ≤ 900000) :
    Calls Tryd.prog 37 #[.pointer (some ⟨j, 0, none⟩), .agg (bkA u0 u1 last), .agg #[.bool true, uL], .int .i64 (lim : Int)] W fun e w' => ∃ l0 L, e = .returned (.tuple #[.agg (bkA l0 (.slice none 0 0) last), .bool true]) ∧ (Ll W.heap.size w' l0 (sho ls) ∧ Cr.Jc lo w' j v lim (1 - live) (gen + 1) (first + bs.length) N (sho ls) [] (sp ++ L) ∧ Fo lo W w') ∧ Cr.Few L ∧ (∀ z ∈ L, ∀ k0 k1, Cr.Dsk N ⟨base, bs, first - 1 + bs.length⟩ (Cr.crash z k0 k1) ∨ Cr.Dsk N ⟨sho ls, [], first - 1 + bs.length⟩ (Cr.crash z k0 k1)) := by
  obtain ⟨oL, cL, rfl⟩ := hL.sl
  obtain ⟨V, hV⟩ : ∃ V, ((W.alloc (.cells #[u0, u1, .int .i64 (last : Int)] 30)).alloc (.cells #[.bool true, .slice oL ls.length cL] 32)).alloc (.cells #[.slice none 0 0, .slice none 0 0, .int .i64 0] 30) = V := ⟨_, rfl⟩
  obtain ⟨r0, r1, r2, bV⟩ := row3 W (.cells #[u0, u1, .int .i64 (last : Int)] 30) (.cells #[.bool true, .slice oL ls.length cL] 32) (.cells #[.slice none 0 0, .slice none 0 0, .int .i64 0] 30)
  rw [hV] at r0 r1 r2 bV
  have c1 : V.cell? ⟨W.heap.size + 1, 1, none⟩ = some (.slice oL ls.length cL) := (cell_of_row _ _ _ _ _ _ r1).trans rfl
  have C1 := short_any V (hL.below bV) hLl
  have gl := sho_gl hL.byt
  have HH := mkHid (And.intro (h.below bV) (And.intro r0 (And.intro r1 (And.intro r2 (And.intro bV gl)))))
  have hlim := h.lim1
  have h_lo := mkHid h.hlo
  clear r0 r1 r2 bV h hL hLl gl
  unfold bkA
  go_enter Tryd.func37, Tryd.ntmps37
  go_upto_region 1 with fail
  try rw [hV]
  clear hV
  go_wp2_with fail
  refine C1.mono ?_
  rintro e w1 ⟨l0, rfl, k1, b1⟩
  clear C1
  have h1 := HH.out.1.below b1
  have C2 := h1.room
  obtain ⟨rm, hrm⟩ : ∃ rm, lim - (journalw gen first base bs).length = rm := ⟨_, rfl⟩
  rw [hrm] at C2
  have r1b := (b1.block _ (Array.getElem?_eq_some_iff.1 HH.out.2.2.1).1).trans HH.out.2.2.1
  have c2 : w1.cell? ⟨W.heap.size + 1, 0, none⟩ = some (.bool true) := (cell_of_row _ _ _ _ _ _ r1b).trans rfl
  obtain ⟨o0, c0, hl0⟩ := k1.sl
  subst hl0
  have HK := mkHid (And.intro k1 (And.intro b1 h1))
  clear k1 b1 h1 r1b c1 hrm
  go_wp2_with fail
  refine C2.mono ?_
  rintro e w2 ⟨rfl, b2⟩
  clear C2
  have c2b := cell_below b2 c2
  have k2 := HK.out.1.keep (stay_below b2)
  have C3 := lists_any w2 k2.lr (fun x hx => by obtain ⟨y, -, rfl⟩ := sho_mem hx; rw [List.length_take]; unfold Go.Proofs.YtfimaflglnemdaaDoor.LIM; omega) (by have := sho_len ls; omega)
  have HK2 := mkHid (And.intro k2 b2)
  clear k2 b2 c2
  go_wp2_with fail
  refine C3.mono ?_
  rintro e w3 ⟨l3, rfl, k3, b3⟩
  clear C3
  have j3 := (HK.out.2.2.below HK2.out.2).below b3
  have hsz := sho_size ls
  have C4 := j3.compact k3 HH.out.2.2.2.2.2 (by omega) hfit hN hc
  have HK3 := mkHid b3
  obtain ⟨o3, c3, hl3⟩ := k3.sl
  subst hl3
  clear k3 b3 j3 c2b
  go_wp2_with fail
  refine C4.mono ?_
  rintro e w4 ⟨L, rfl, j4, hL1, hL2, fo4⟩
  clear C4
  have HM := mkHid (And.intro hL1 hL2)
  clear hL1 hL2
  have k4 := (HK2.out.1.keep (stay_below HK3.out)).keep (fo4.stay ll_ty)
  have C5 := law_size true w4 k4.lr (by omega)
  rw [if_pos rfl] at C5
  obtain ⟨z, hz⟩ : ∃ z, 52 + sizes (sho ls) = z := ⟨_, rfl⟩
  rw [hz] at C5
  have hzl : ¬ (lim : Int) < (z : Int) := by omega
  have bV4 : Below V.heap.size V w3 := HK.out.2.1.trans ((HK2.out.2.trans (HK3.out.mono HK2.out.2.size)).mono HK.out.2.1.size)
  have foV : Fo lo V w4 := (Fo.of_below bV4).trans fo4
  have r0 := foV.row HH.out.2.1 (by decide) (by decide) (by decide)
  have r2 := foV.row HH.out.2.2.2.1 (by decide) (by decide) (by decide)
  have foW : Fo lo W w4 := (Fo.of_below HH.out.2.2.2.2.1).trans foV
  have HK4 := mkHid (And.intro k4 (And.intro j4 (And.intro foW (And.intro r0 (And.intro r2 hz)))))
  clear k4 j4 foW r0 r2 hz foV bV4 fo4
  go_wp2_with fail
  refine C5.mono ?_
  rintro e w5 ⟨rfl, hw5⟩
  subst hw5
  have j5 := HK4.out.2.1.below (below_drew w5)
  have C6 := j5.room
  have hz2 : lim - (journalw (gen + 1) (first + bs.length) (sho ls) []).length = lim - z := by rw [journalw_len, ← HK4.out.2.2.2.2.2]; simp [bsizes]
  rw [hz2] at C6
  have hzz : z ≤ lim := by omega
  have a2 : w5.drew.cell? ⟨W.heap.size, 2, none⟩ = some (.int .i64 (last : Int)) := (cell_of_row _ _ _ _ _ _ HK4.out.2.2.2.1).trans rfl
  obtain ⟨r, hr⟩ : ∃ r, lim - z = r := ⟨_, rfl⟩
  rw [hr] at C6
  have CR : Hid (Calls Tryd.prog 21 #[.pointer (some ⟨j, 0, none⟩)] w5.drew fun e w' => e = .returned (.int .i64 (r : Int)) ∧ Hid (Below w5.heap.size w5 w') ∧ w'.cell? ⟨W.heap.size, 2, none⟩ = some (.int .i64 (last : Int))) := C6.mono (fun e w' ⟨e1, e2⟩ => ⟨e1, (below_drew w5).trans e2, cell_below e2 a2⟩)
  have CS : Hid (∀ w', Hid (Below w5.heap.size w5 w') → Calls Tryd.prog 62 #[.slice o0 (sho ls).length c0, .bool true] w' fun e w2 => e = .returned (.int .i64 (z : Int)) ∧ w2 = w') := fun w' hb => by
    have := law_size true w' (HK4.out.1.lr.below hb.out) (by omega)
    rw [if_pos rfl, HK4.out.2.2.2.2.2] at this
    exact this
  have HD : Hid (∀ w', Hid (Below w5.heap.size w5 w') → (stBk (.pointer (some ⟨W.heap.size + 1 + 1, 0, none⟩)) (.agg #[.slice o0 (sho ls).length c0, .slice none 0 0, .int .i64 (last : Int)])).run Tryd.prog w' = .ok () (w'.setRow (W.heap.size + 2) #[.slice o0 (sho ls).length c0, .slice none 0 0, .int .i64 (last : Int)]) ∧ (w'.setRow (W.heap.size + 2) #[.slice o0 (sho ls).length c0, .slice none 0 0, .int .i64 (last : Int)]).cell? ⟨W.heap.size, 2, none⟩ = some (.int .i64 (last : Int)) ∧ Hid ((w'.setRow (W.heap.size + 2) #[.slice o0 (sho ls).length c0, .slice none 0 0, .int .i64 (last : Int)]).heap[W.heap.size + 2]? = some (.cells #[.slice o0 (sho ls).length c0, .slice none 0 0, .int .i64 (last : Int)] 30 (0, 0)) ∧ Ll W.heap.size (w'.setRow (W.heap.size + 2) #[.slice o0 (sho ls).length c0, .slice none 0 0, .int .i64 (last : Int)]) (.slice o0 (sho ls).length c0) (sho ls) ∧ Cr.Jc lo (w'.setRow (W.heap.size + 2) #[.slice o0 (sho ls).length c0, .slice none 0 0, .int .i64 (last : Int)]) j v lim (1 - live) (gen + 1) (first + bs.length) N (sho ls) [] (sp ++ L) ∧ Fo lo W (w'.setRow (W.heap.size + 2) #[.slice o0 (sho ls).length c0, .slice none 0 0, .int .i64 (last : Int)]))) := by
    intro w' hb
    have hr2 := (hb.out.block _ (Array.getElem?_eq_some_iff.1 HK4.out.2.2.2.2.1).1).trans HK4.out.2.2.2.2.1
    have hr0 := (hb.out.block _ (Array.getElem?_eq_some_iff.1 HK4.out.2.2.2.1).1).trans HK4.out.2.2.2.1
    have ht := (HK4.out.2.1.below hb.out).tc
    have hlo := HK4.out.2.1.hlo
    refine ⟨st_Bk w' (W.heap.size + 2) _ _ rfl rfl (by simp [Value.oneCell']) hr2, ?_, setRow_heap _ _ _ _ _ _ hr2, ?_, ?_, ?_⟩
    · exact (cell_of_row _ _ _ _ _ _ ((setRow_other w' (W.heap.size + 2) W.heap.size _ (by omega)).trans hr0)).trans rfl
    · refine ((HK4.out.1.mono HH.out.2.2.2.2.1.size).keep (stay_below hb.out)).keep (fun k c t _ ht hc => setRow_other _ _ _ _ (row_ne hc hr2 ?_))
      rcases ht with rfl | rfl <;> decide
    · refine (HK4.out.2.1.below hb.out).free (Fre.setRow hr2 (by decide) (by intro m hm; simp at hm) _) (ht.keep (by rw [size_setRow]; exact Nat.le_refl _) (setRow_other _ _ _ _ ?_))
      have := HK4.out.2.1.c0
      have := h_lo.out
      omega
    · exact (HK4.out.2.2.1.trans (Fo.of_below hb.out)).setRow (by omega) _
  have hq : Hid (((r : Int) == IntKind.i64.wrap ((lim : Int) - (z : Int))) = true) := by
    show ((r : Int) == IntKind.i64.wrap ((lim : Int) - (z : Int))) = true
    rw [beq_iff_eq, IntKind.wrap_i64]
    omega
  clear C5 C6 j5 hz2
  replace hzz := mkHid hzz
  replace hr := mkHid hr
  go_upto_region 7 with fail
  clear hzl
  go_region_held3 (fun w' => w'.cell? ⟨W.heap.size, 2, none⟩ = some (.int .i64 (last : Int))) (first | assumption | exact a2)
    (first
      | (go_at_call 21; with_reducible refine Calls.mono CR.out ?_; rintro e w6 ⟨rfl, k6, s6⟩; obtain ⟨st1, st2, st3⟩ := HD.out w6 k6)
      | (go_at_call 62; with_reducible refine Calls.mono (CS.out _ k6) ?_; rintro e w7 ⟨rfl, rfl⟩))
  rw [hq.out]
  go_wp2_with fail
  refine bodyPost_ret (results_Bk rfl _ _ (W.heap.size + 2) _ rfl rfl st3.out.1) rfl ?_
  exact ⟨_, L, rfl, st3.out.2, HM.out⟩
end
end Dev
end Go.Proofs.YtfimaflglnemdaaDoor

/- JournalCrash: the law's does, with the moments: a commit that is done. -/
namespace Go.Proofs.YtfimaflglnemdaaDoor
open Go.RowKit
open JM
set_option maxRecDepth 20000
namespace Dev
section
variable [Inhabited HoleT] {lo j v lim live gen first N : Nat} {W : World} {base : List (List Nat)} {bs : List (List (List Nat))} {sp : List Sp}
attribute [local go_sem ↓] toStBk toLdBk toApBB in
set_option maxRecDepth 100000 in
set_option maxHeartbeats 3200000 in
theorem does_commitH {B : Nat} {u0 u1 uL : Value} {ls : List (List Nat)} {last : Nat} (h : Cr.Jc lo W j v lim live gen first N base bs sp) (hl : last = first - 1 + bs.length) (hb0 : Ll B W u0 base) (hb1 : Lb B W u1 bs) (hB : B ≤ W.heap.size) (hL : Lr W uL ls) (hLl : ∀ x ∈ ls, x.length ≤ Go.Proofs.YtfimaflglnemdaaDoor.LIM) (hfit : (journalw gen first base bs).length + (26 + sizes (sho ls)) ≤ lim) (hN : first + bs.length + 1 ≤ N) (hc : sp.length + 3 ≤ 900000) :
    Calls Tryd.prog 37 #[.pointer (some ⟨j, 0, none⟩), .agg (bkA u0 u1 last), .agg #[.bool false, uL], .int .i64 (lim : Int)] W fun e w' => ∃ l1 L, e = .returned (.tuple #[.agg (bkA u0 l1 (last + 1)), .bool true]) ∧ (Ll B w' u0 base ∧ Lb B w' l1 (bs ++ [sho ls]) ∧ Cr.Jc lo w' j v lim live gen first N base (bs ++ [sho ls]) (sp ++ L) ∧ Fo lo W w') ∧ Cr.Few L ∧ (∀ z ∈ L, ∀ k0 k1, Cr.Dsk N ⟨base, bs, first - 1 + bs.length⟩ (Cr.crash z k0 k1) ∨ Cr.Dsk N ⟨base, bs ++ [sho ls], first - 1 + (bs ++ [sho ls]).length⟩ (Cr.crash z k0 k1)) := by
  obtain ⟨oL, cL, rfl⟩ := hL.sl
  obtain ⟨p0, q0, hu0⟩ := hb0.sl
  obtain ⟨p1, q1, hu1⟩ := hb1.sl
  subst hu0 hu1
  obtain ⟨V, hV⟩ : ∃ V, ((W.alloc (.cells #[.slice p0 base.length q0, .slice p1 bs.length q1, .int .i64 (last : Int)] 30)).alloc (.cells #[.bool false, .slice oL ls.length cL] 32)).alloc (.cells #[.slice none 0 0, .slice none 0 0, .int .i64 0] 30) = V := ⟨_, rfl⟩
  obtain ⟨r0, r1, r2, bV⟩ := row3 W (.cells #[.slice p0 base.length q0, .slice p1 bs.length q1, .int .i64 (last : Int)] 30) (.cells #[.bool false, .slice oL ls.length cL] 32) (.cells #[.slice none 0 0, .slice none 0 0, .int .i64 0] 30)
  rw [hV] at r0 r1 r2 bV
  have c1 : V.cell? ⟨W.heap.size + 1, 1, none⟩ = some (.slice oL ls.length cL) := (cell_of_row _ _ _ _ _ _ r1).trans rfl
  have C1 := short_any V (hL.below bV) hLl
  have gl := sho_gl hL.byt
  have HH := mkHid (And.intro (h.below bV) (And.intro r0 (And.intro r1 (And.intro r2 (And.intro bV gl)))))
  have HBK := mkHid (And.intro (hb0.keep (stay_below bV)) (And.intro (hb1.keep (stay_below bV)) (And.intro hB hl)))
  have hlim := h.lim1
  have h_lo := mkHid h.hlo
  have hlast : last < 1000000 := by have := h.fN; have := h.nN; omega
  have hfN2 := h.fN
  have hnN2 := h.nN
  clear r0 r1 r2 bV h hL hLl gl hb0 hb1 hB hl
  unfold bkA
  go_enter Tryd.func37, Tryd.ntmps37
  go_upto_region 1 with fail
  try rw [hV]
  clear hV
  go_wp2_with fail
  refine C1.mono ?_
  rintro e w1 ⟨l0, rfl, k1, b1⟩
  clear C1
  have h1 := HH.out.1.below b1
  have C2 := h1.room
  obtain ⟨rm, hrm⟩ : ∃ rm, lim - (journalw gen first base bs).length = rm := ⟨_, rfl⟩
  rw [hrm] at C2
  have r1b := (b1.block _ (Array.getElem?_eq_some_iff.1 HH.out.2.2.1).1).trans HH.out.2.2.1
  have c2 : w1.cell? ⟨W.heap.size + 1, 0, none⟩ = some (.bool false) := (cell_of_row _ _ _ _ _ _ r1b).trans rfl
  obtain ⟨o0, c0, hl0⟩ := k1.sl
  subst hl0
  have HK := mkHid (And.intro k1 (And.intro b1 h1))
  have hrm2 : 26 + sizes (sho ls) ≤ rm := by omega
  replace hrm := mkHid hrm
  clear k1 b1 h1 r1b c1
  go_wp2_with fail
  refine C2.mono ?_
  rintro e w2 ⟨rfl, b2⟩
  clear C2
  have c2b := cell_below b2 c2
  have k2 := HK.out.1.keep (stay_below b2)
  have C3 := lists_any w2 k2.lr (fun x hx => by obtain ⟨y, -, rfl⟩ := sho_mem hx; rw [List.length_take]; unfold Go.Proofs.YtfimaflglnemdaaDoor.LIM; omega) (by have := sho_len ls; omega)
  have HK2 := mkHid (And.intro k2 b2)
  clear k2 b2 c2
  go_wp2_with fail
  refine C3.mono ?_
  rintro e w3 ⟨l3, rfl, k3, b3⟩
  clear C3
  have j3 := (HK.out.2.2.below HK2.out.2).below b3
  have hsz := sho_size ls
  have C4 := j3.commit k3 HH.out.2.2.2.2.2 (by omega) hfit hN hc
  have HK3 := mkHid b3
  obtain ⟨o3, c3, hl3⟩ := k3.sl
  subst hl3
  rw [show first - 1 + (bs ++ [sho ls]).length = last + 1 by rw [HBK.out.2.2.2]; simp; omega, Int.natCast_succ] at C4
  replace C4 := mkHid C4
  clear k3 b3 j3 c2b
  go_wp2_with fail
  refine C4.out.mono ?_
  rintro e w4 ⟨L, rfl, j4, hL1, hL2, fo4⟩
  clear C4
  have HM := mkHid (And.intro hL1 hL2)
  clear hL1 hL2
  have k4 := (HK2.out.1.keep (stay_below HK3.out)).keep (fo4.stay ll_ty)
  have C5 := law_size false w4 k4.lr (by omega)
  rw [if_neg (by decide)] at C5
  obtain ⟨z, hz⟩ : ∃ z, 26 + sizes (sho ls) = z := ⟨_, rfl⟩
  rw [hz] at C5
  have hzl : ¬ (rm : Int) < (z : Int) := by omega
  have bV4 : Below V.heap.size V w3 := HK.out.2.1.trans ((HK2.out.2.trans (HK3.out.mono HK2.out.2.size)).mono HK.out.2.1.size)
  have foV : Fo lo V w4 := (Fo.of_below bV4).trans fo4
  have r0 := foV.row HH.out.2.1 (by decide) (by decide) (by decide)
  have r2 := foV.row HH.out.2.2.2.1 (by decide) (by decide) (by decide)
  have foW : Fo lo W w4 := (Fo.of_below HH.out.2.2.2.2.1).trans foV
  have kb0 := HBK.out.1.keep (foV.stay ll_ty)
  have kb1 := HBK.out.2.1.keep (foV.stay lb_ty)
  have a1 : w4.cell? ⟨W.heap.size, 1, none⟩ = some (.slice p1 bs.length q1) := (cell_of_row _ _ _ _ _ _ r0).trans rfl
  obtain ⟨g1, d1, x1, g2, d2, x2, A1, A2, A3, A4⟩ := kb1.snoc (k4.mono (Nat.le_trans HBK.out.2.2.1 HH.out.2.2.2.2.1.size)) (Nat.le_trans HBK.out.2.2.1 (by have := foW.size; omega)) (by omega)
  have HK4 := mkHid (And.intro (k4.keep (stay_below A4)) (And.intro (j4.below A4) (And.intro (foW.trans (Fo.of_below A4)) (And.intro ((A4.block _ (Array.getElem?_eq_some_iff.1 r0).1).trans r0) (And.intro ((A4.block _ (Array.getElem?_eq_some_iff.1 r2).1).trans r2) (And.intro hz (And.intro (kb0.keep (stay_below A4)) A3)))))))
  clear k4 j4 foW r0 r2 hz foV bV4 fo4 A4 A3 kb0 kb1
  go_wp2_with fail
  refine C5.mono ?_
  rintro e w5 ⟨rfl, hw5⟩
  subst hw5
  go_upto_region 14 with fail
  have j5 := HK4.out.2.1.below (below_drew x2)
  have C6 := j5.room
  have hz2 : lim - (journalw gen first base (bs ++ [sho ls])).length = rm - z := by
    rw [← hrm.out, ← HK4.out.2.2.2.2.2.1, journalw, batchesw_snoc, ← List.append_assoc, List.length_append, batchw_len]
    unfold journalw
    omega
  rw [hz2] at C6
  have b0 : x2.drew.cell? ⟨W.heap.size, 0, none⟩ = some (.slice p0 base.length q0) := (cell_of_row _ _ _ _ _ _ HK4.out.2.2.2.1).trans rfl
  have b2 : x2.drew.cell? ⟨W.heap.size, 2, none⟩ = some (.int .i64 (last : Int)) := (cell_of_row _ _ _ _ _ _ HK4.out.2.2.2.1).trans rfl
  obtain ⟨r, hr⟩ : ∃ r, rm - z = r := ⟨_, rfl⟩
  rw [hr] at C6
  have CR : Hid (Calls Tryd.prog 21 #[.pointer (some ⟨j, 0, none⟩)] x2.drew fun e w' => e = .returned (.int .i64 (r : Int)) ∧ Hid (Below x2.heap.size x2 w') ∧ (w'.cell? ⟨W.heap.size, 0, none⟩ = some (.slice p0 base.length q0) ∧ w'.cell? ⟨W.heap.size, 2, none⟩ = some (.int .i64 (last : Int)))) := C6.mono (fun e w' ⟨e1, e2⟩ => ⟨e1, (below_drew x2).trans e2, cell_below e2 b0, cell_below e2 b2⟩)
  have CS : Hid (∀ w', Hid (Below x2.heap.size x2 w') → Calls Tryd.prog 62 #[.slice o0 (sho ls).length c0, .bool false] w' fun e w2 => e = .returned (.int .i64 (z : Int)) ∧ w2 = w') := fun w' hb => by
    have := law_size false w' (HK4.out.1.lr.below hb.out) (by omega)
    rw [if_neg (by decide), HK4.out.2.2.2.2.2.1] at this
    exact this
  have wl : IntKind.i64.wrap ((last : Int) + 1) = (last : Int) + 1 := by rw [IntKind.wrap_i64]; omega
  have hql : Hid ((last : Int) + 1 = ((last + 1 : Nat) : Int)) := by show (last : Int) + 1 = _; omega
  have HD : Hid (∀ w', Hid (Below x2.heap.size x2 w') → (stBk (.pointer (some ⟨W.heap.size + 1 + 1, 0, none⟩)) (.agg #[.slice p0 base.length q0, .slice g2 (bs.length + 1) d2, .int .i64 (IntKind.i64.wrap ((last : Int) + 1))])).run Tryd.prog w' = .ok () (w'.setRow (W.heap.size + 2) #[.slice p0 base.length q0, .slice g2 (bs.length + 1) d2, .int .i64 (IntKind.i64.wrap ((last : Int) + 1))]) ∧ ((w'.setRow (W.heap.size + 2) #[.slice p0 base.length q0, .slice g2 (bs.length + 1) d2, .int .i64 (IntKind.i64.wrap ((last : Int) + 1))]).cell? ⟨W.heap.size, 0, none⟩ = some (.slice p0 base.length q0) ∧ (w'.setRow (W.heap.size + 2) #[.slice p0 base.length q0, .slice g2 (bs.length + 1) d2, .int .i64 (IntKind.i64.wrap ((last : Int) + 1))]).cell? ⟨W.heap.size, 2, none⟩ = some (.int .i64 (last : Int))) ∧ Hid ((w'.setRow (W.heap.size + 2) #[.slice p0 base.length q0, .slice g2 (bs.length + 1) d2, .int .i64 (IntKind.i64.wrap ((last : Int) + 1))]).heap[W.heap.size + 2]? = some (.cells #[.slice p0 base.length q0, .slice g2 (bs.length + 1) d2, .int .i64 (IntKind.i64.wrap ((last : Int) + 1))] 30 (0, 0)) ∧ Ll B (w'.setRow (W.heap.size + 2) #[.slice p0 base.length q0, .slice g2 (bs.length + 1) d2, .int .i64 (IntKind.i64.wrap ((last : Int) + 1))]) (.slice p0 base.length q0) base ∧ Lb B (w'.setRow (W.heap.size + 2) #[.slice p0 base.length q0, .slice g2 (bs.length + 1) d2, .int .i64 (IntKind.i64.wrap ((last : Int) + 1))]) (.slice g2 (bs.length + 1) d2) (bs ++ [sho ls]) ∧ Cr.Jc lo (w'.setRow (W.heap.size + 2) #[.slice p0 base.length q0, .slice g2 (bs.length + 1) d2, .int .i64 (IntKind.i64.wrap ((last : Int) + 1))]) j v lim live gen first N base (bs ++ [sho ls]) (sp ++ L) ∧ Fo lo W (w'.setRow (W.heap.size + 2) #[.slice p0 base.length q0, .slice g2 (bs.length + 1) d2, .int .i64 (IntKind.i64.wrap ((last : Int) + 1))]))) := by
    intro w' hb
    have hr2 := (hb.out.block _ (Array.getElem?_eq_some_iff.1 HK4.out.2.2.2.2.1).1).trans HK4.out.2.2.2.2.1
    have hr0 := (hb.out.block _ (Array.getElem?_eq_some_iff.1 HK4.out.2.2.2.1).1).trans HK4.out.2.2.2.1
    have ht := (HK4.out.2.1.below hb.out).tc
    have hr0b := (setRow_other w' (W.heap.size + 2) W.heap.size #[.slice p0 base.length q0, .slice g2 (bs.length + 1) d2, .int .i64 (IntKind.i64.wrap ((last : Int) + 1))] (by omega)).trans hr0
    refine ⟨st_Bk w' (W.heap.size + 2) _ _ rfl rfl (by simp [Value.oneCell']) hr2, ⟨?_, ?_⟩, setRow_heap _ _ _ _ _ _ hr2, ?_, ?_, ?_, ?_⟩
    · exact (cell_of_row _ _ _ _ _ _ hr0b).trans rfl
    · exact (cell_of_row _ _ _ _ _ _ hr0b).trans rfl
    · refine (HK4.out.2.2.2.2.2.2.1.keep (stay_below hb.out)).keep (fun k c t _ ht hc => setRow_other _ _ _ _ (row_ne hc hr2 ?_))
      rcases ht with rfl | rfl <;> decide
    · refine (HK4.out.2.2.2.2.2.2.2.keep (stay_below hb.out)).keep (fun k c t _ ht hc => setRow_other _ _ _ _ (row_ne hc hr2 ?_))
      rcases ht with rfl | rfl | rfl <;> decide
    · refine (HK4.out.2.1.below hb.out).free (Fre.setRow hr2 (by decide) (by intro m hm; simp at hm) _) (ht.keep (by rw [size_setRow]; exact Nat.le_refl _) (setRow_other _ _ _ _ ?_))
      have := HK4.out.2.1.c0
      have := h_lo.out
      omega
    · exact (HK4.out.2.2.1.trans (Fo.of_below hb.out)).setRow (by omega) _
  have hfit0 := hfit
  have hq : Hid (((r : Int) == IntKind.i64.wrap ((rm : Int) - (z : Int))) = true) := by
    show ((r : Int) == IntKind.i64.wrap ((rm : Int) - (z : Int))) = true
    rw [beq_iff_eq, IntKind.wrap_i64]
    have := hfit0
    omega
  have hq2 : ((last : Int) + 1 == IntKind.i64.wrap ((last : Int) + 1)) = true := by rw [wl]; simp
  replace hr := mkHid hr
  replace wl := mkHid wl
  clear C5 C6 j5 hz2 hzl hrm2 hsz hlim hfit hN hc hlast A1 A2 a1
  go_region_held3 (fun w' => w'.cell? ⟨W.heap.size, 0, none⟩ = some (.slice p0 base.length q0) ∧ w'.cell? ⟨W.heap.size, 2, none⟩ = some (.int .i64 (last : Int))) (first | assumption | exact ⟨b0, b2⟩)
    (first
      | (go_at_call 21; with_reducible refine Calls.mono CR.out ?_; rintro e w6 ⟨rfl, k6, s6⟩; obtain ⟨st1, st2, st3⟩ := HD.out w6 k6)
      | (go_at_call 62; with_reducible refine Calls.mono (CS.out _ k6) ?_; rintro e w7 ⟨rfl, rfl⟩))
  rw [hq.out]
  go_wp2_with fail
  refine bodyPost_ret (results_Bk rfl _ _ (W.heap.size + 2) _ rfl rfl st3.out.1) rfl ?_
  refine ⟨.slice g2 (bs.length + 1) d2, L, ?_, st3.out.2, ?_⟩
  · rw [wl.out, hql.out]
    rfl
  · rw [show first - 1 + (bs ++ [sho ls]).length = last + 1 by rw [HBK.out.2.2.2]; simp; omega]
    exact HM.out
end
end Dev
end Go.Proofs.YtfimaflglnemdaaDoor

/- JournalCrash: the law's does: what is refused. -/
namespace Go.Proofs.YtfimaflglnemdaaDoor
open Go.RowKit
open JM
set_option maxRecDepth 20000
namespace Dev
section
variable [Inhabited HoleT] {lo j v lim live gen first N : Nat} {W : World} {base : List (List Nat)} {bs : List (List (List Nat))} {sp : List Sp}
attribute [local go_sem ↓] toStBk in
set_option maxRecDepth 100000 in
set_option maxHeartbeats 3200000 in
theorem does_compact_full {B : Nat} {u0 u1 uL : Value} {ls : List (List Nat)} {last : Nat} (h : Cr.Jc lo W j v lim live gen first N base bs sp) (hb0 : Ll B W u0 base) (hb1 : Lb B W u1 bs) (hL : Lr W uL ls) (hLl : ∀ x ∈ ls, x.length ≤ Go.Proofs.YtfimaflglnemdaaDoor.LIM) (hfit : ¬ 52 + sizes (sho ls) ≤ lim) :
    Calls Tryd.prog 37 #[.pointer (some ⟨j, 0, none⟩), .agg (bkA u0 u1 last), .agg #[.bool true, uL], .int .i64 (lim : Int)] W fun e w' => e = .returned (.tuple #[.agg (bkA u0 u1 last), .bool true]) ∧ Cr.Jc lo w' j v lim live gen first N base bs sp ∧ Fo lo W w' := by
  obtain ⟨oL, cL, rfl⟩ := hL.sl
  obtain ⟨p0, q0, hu0⟩ := hb0.sl
  obtain ⟨p1, q1, hu1⟩ := hb1.sl
  subst hu0 hu1
  obtain ⟨V, hV⟩ : ∃ V, ((W.alloc (.cells #[.slice p0 base.length q0, .slice p1 bs.length q1, .int .i64 (last : Int)] 30)).alloc (.cells #[.bool true, .slice oL ls.length cL] 32)).alloc (.cells #[.slice none 0 0, .slice none 0 0, .int .i64 0] 30) = V := ⟨_, rfl⟩
  obtain ⟨r0, r1, r2, bV⟩ := row3 W (.cells #[.slice p0 base.length q0, .slice p1 bs.length q1, .int .i64 (last : Int)] 30) (.cells #[.bool true, .slice oL ls.length cL] 32) (.cells #[.slice none 0 0, .slice none 0 0, .int .i64 0] 30)
  rw [hV] at r0 r1 r2 bV
  have c1 : V.cell? ⟨W.heap.size + 1, 1, none⟩ = some (.slice oL ls.length cL) := (cell_of_row _ _ _ _ _ _ r1).trans rfl
  have C1 := short_any V (hL.below bV) hLl
  have gl := sho_gl hL.byt
  have HH := mkHid (And.intro (h.below bV) (And.intro r0 (And.intro r1 (And.intro r2 (And.intro bV gl)))))
  have hlim := h.lim1
  have h_lo := mkHid h.hlo
  clear r0 r1 r2 bV h hL hLl gl hb0 hb1
  unfold bkA
  go_enter Tryd.func37, Tryd.ntmps37
  go_upto_region 1 with fail
  try rw [hV]
  clear hV
  go_wp2_with fail
  refine C1.mono ?_
  rintro e w1 ⟨l0, rfl, k1, b1⟩
  clear C1
  have h1 := HH.out.1.below b1
  have C2 := h1.room
  obtain ⟨rm, hrm⟩ : ∃ rm, lim - (journalw gen first base bs).length = rm := ⟨_, rfl⟩
  rw [hrm] at C2
  have r1b := (b1.block _ (Array.getElem?_eq_some_iff.1 HH.out.2.2.1).1).trans HH.out.2.2.1
  have c2 : w1.cell? ⟨W.heap.size + 1, 0, none⟩ = some (.bool true) := (cell_of_row _ _ _ _ _ _ r1b).trans rfl
  obtain ⟨o0, c0, hl0⟩ := k1.sl
  subst hl0
  have HK := mkHid (And.intro k1 (And.intro b1 h1))
  have hrm2 : rm ≤ lim ∧ (journalw gen first base bs).length + rm ≤ max lim (journalw gen first base bs).length := by omega
  have hrm3 : ∀ z : Nat, ¬ (journalw gen first base bs).length + z ≤ lim → 0 < z → rm < z := by intro z; omega
  replace hrm := mkHid hrm
  clear k1 b1 h1 r1b c1
  go_wp2_with fail
  refine C2.mono ?_
  rintro e w2 ⟨rfl, b2⟩
  clear C2
  have c2b := cell_below b2 c2
  have k2 := HK.out.1.keep (stay_below b2)
  have C3 := lists_any w2 k2.lr (fun x hx => by obtain ⟨y, -, rfl⟩ := sho_mem hx; rw [List.length_take]; unfold Go.Proofs.YtfimaflglnemdaaDoor.LIM; omega) (by have := sho_len ls; omega)
  have HK2 := mkHid (And.intro k2 b2)
  clear k2 b2 c2
  go_wp2_with fail
  refine C3.mono ?_
  rintro e w3 ⟨l3, rfl, k3, b3⟩
  clear C3
  have j3 := (HK.out.2.2.below HK2.out.2).below b3
  have hsz := sho_size ls
  have C4 := j3.compact_full k3 HH.out.2.2.2.2.2 (by omega) hfit
  obtain ⟨o3, c3, hl3⟩ := k3.sl
  subst hl3
  have HK3 := mkHid (And.intro b3 j3)
  clear k3 b3 j3 c2b
  go_wp2_with fail
  refine C4.mono ?_
  rintro e w4 ⟨rfl, b4⟩
  clear C4
  have b24 := HK3.out.1.trans (b4.mono HK3.out.1.size)
  have k4 := HK2.out.1.keep (stay_below b24)
  have C5 := law_size true w4 k4.lr (by omega)
  rw [if_pos rfl] at C5
  obtain ⟨z, hz⟩ : ∃ z, 52 + sizes (sho ls) = z := ⟨_, rfl⟩
  rw [hz] at C5
  have hz9 := hrm3 z
  rw [← hz] at hz9
  have hz8 : 52 + sizes (sho ls) = z := hz
  have hzl : (lim : Int) < (z : Int) := by omega
  have j4 := HK3.out.2.below b4
  have bV4 : Below V.heap.size V w4 := HK.out.2.1.trans ((HK2.out.2.trans (b24.mono HK2.out.2.size)).mono HK.out.2.1.size)
  have r0 := (bV4.block _ (Array.getElem?_eq_some_iff.1 HH.out.2.1).1).trans HH.out.2.1
  have r2 := (bV4.block _ (Array.getElem?_eq_some_iff.1 HH.out.2.2.2.1).1).trans HH.out.2.2.2.1
  have bW4 := HH.out.2.2.2.2.1.trans (bV4.mono HH.out.2.2.2.2.1.size)
  have HK4 := mkHid (And.intro j4 (And.intro r0 (And.intro r2 bW4)))
  clear k4 j4 r0 r2 bV4 bW4 b24 b4 hz hz8 hz9 hrm3 hrm2 hfit
  go_wp2_with fail
  refine C5.mono ?_
  rintro e w5 ⟨rfl, hw5⟩
  subst hw5
  clear C5
  have j5 := HK4.out.1.below (below_drew w5)
  have C6 := j5.room
  rw [hrm.out] at C6
  have rd0 : w5.drew.heap[W.heap.size]? = _ := HK4.out.2.1
  have a0 : w5.drew.cell? ⟨W.heap.size, 0, none⟩ = some (.slice p0 base.length q0) ∧ w5.drew.cell? ⟨W.heap.size, 1, none⟩ = some (.slice p1 bs.length q1) ∧ w5.drew.cell? ⟨W.heap.size, 2, none⟩ = some (.int .i64 (last : Int)) := ⟨(cell_of_row _ _ _ _ _ _ rd0).trans rfl, (cell_of_row _ _ _ _ _ _ rd0).trans rfl, (cell_of_row _ _ _ _ _ _ rd0).trans rfl⟩
  have CR : Hid (Calls Tryd.prog 21 #[.pointer (some ⟨j, 0, none⟩)] w5.drew fun e w' => e = .returned (.int .i64 (rm : Int)) ∧ Hid (Below w5.heap.size w5 w') ∧ (w'.cell? ⟨W.heap.size, 0, none⟩ = some (.slice p0 base.length q0) ∧ w'.cell? ⟨W.heap.size, 1, none⟩ = some (.slice p1 bs.length q1) ∧ w'.cell? ⟨W.heap.size, 2, none⟩ = some (.int .i64 (last : Int)))) := C6.mono (fun e w' ⟨e1, e2⟩ => ⟨e1, (below_drew w5).trans e2, cell_below e2 a0.1, cell_below e2 a0.2.1, cell_below e2 a0.2.2⟩)
  have HD : Hid (∀ w', Hid (Below w5.heap.size w5 w') → (stBk (.pointer (some ⟨W.heap.size + 1 + 1, 0, none⟩)) (.agg #[.slice p0 base.length q0, .slice p1 bs.length q1, .int .i64 (last : Int)])).run Tryd.prog w' = .ok () (w'.setRow (W.heap.size + 2) #[.slice p0 base.length q0, .slice p1 bs.length q1, .int .i64 (last : Int)]) ∧ ((w'.setRow (W.heap.size + 2) #[.slice p0 base.length q0, .slice p1 bs.length q1, .int .i64 (last : Int)]).cell? ⟨W.heap.size, 0, none⟩ = some (.slice p0 base.length q0) ∧ (w'.setRow (W.heap.size + 2) #[.slice p0 base.length q0, .slice p1 bs.length q1, .int .i64 (last : Int)]).cell? ⟨W.heap.size, 1, none⟩ = some (.slice p1 bs.length q1) ∧ (w'.setRow (W.heap.size + 2) #[.slice p0 base.length q0, .slice p1 bs.length q1, .int .i64 (last : Int)]).cell? ⟨W.heap.size, 2, none⟩ = some (.int .i64 (last : Int))) ∧ Hid ((w'.setRow (W.heap.size + 2) #[.slice p0 base.length q0, .slice p1 bs.length q1, .int .i64 (last : Int)]).heap[W.heap.size + 2]? = some (.cells #[.slice p0 base.length q0, .slice p1 bs.length q1, .int .i64 (last : Int)] 30 (0, 0)) ∧ Cr.Jc lo (w'.setRow (W.heap.size + 2) #[.slice p0 base.length q0, .slice p1 bs.length q1, .int .i64 (last : Int)]) j v lim live gen first N base bs sp ∧ Fo lo W (w'.setRow (W.heap.size + 2) #[.slice p0 base.length q0, .slice p1 bs.length q1, .int .i64 (last : Int)]))) := by
    intro w' hb
    have hr2 := (hb.out.block _ (Array.getElem?_eq_some_iff.1 HK4.out.2.2.1).1).trans HK4.out.2.2.1
    have hr0 := (hb.out.block _ (Array.getElem?_eq_some_iff.1 HK4.out.2.1).1).trans HK4.out.2.1
    have ht := (HK4.out.1.below hb.out).tc
    have hr0b := (setRow_other w' (W.heap.size + 2) W.heap.size #[.slice p0 base.length q0, .slice p1 bs.length q1, .int .i64 (last : Int)] (by omega)).trans hr0
    refine ⟨st_Bk w' (W.heap.size + 2) _ _ rfl rfl (by simp [Value.oneCell']) hr2, ⟨(cell_of_row _ _ _ _ _ _ hr0b).trans rfl, (cell_of_row _ _ _ _ _ _ hr0b).trans rfl, (cell_of_row _ _ _ _ _ _ hr0b).trans rfl⟩, setRow_heap _ _ _ _ _ _ hr2, ?_, ?_⟩
    · refine (HK4.out.1.below hb.out).free (Fre.setRow hr2 (by decide) (by intro m hm; simp at hm) _) (ht.keep (by rw [size_setRow]; exact Nat.le_refl _) (setRow_other _ _ _ _ ?_))
      have := HK4.out.1.c0
      have := h_lo.out
      omega
    · exact ((Fo.of_below HK4.out.2.2.2).trans (Fo.of_below hb.out)).setRow (by omega) _
  clear C6 j5 rd0
  go_upto_region 6 with fail
  clear hzl
  go_region_held3 (fun w' => w'.cell? ⟨W.heap.size, 0, none⟩ = some (.slice p0 base.length q0) ∧ w'.cell? ⟨W.heap.size, 1, none⟩ = some (.slice p1 bs.length q1) ∧ w'.cell? ⟨W.heap.size, 2, none⟩ = some (.int .i64 (last : Int))) (first | assumption | exact a0)
    (first
      | (go_at_call 21; with_reducible refine Calls.mono CR.out ?_; rintro e w6 ⟨rfl, k6, s6⟩; obtain ⟨st1, st2, st3⟩ := HD.out w6 k6))
  go_wp2_with fail
  refine bodyPost_ret (results_Bk rfl _ _ (W.heap.size + 2) _ rfl rfl st3.out.1) rfl ?_
  exact ⟨rfl, st3.out.2⟩
end
end Dev
end Go.Proofs.YtfimaflglnemdaaDoor

/- JournalCrash: the law's does: a commit that is refused. -/
namespace Go.Proofs.YtfimaflglnemdaaDoor
open Go.RowKit
open JM
set_option maxRecDepth 20000
namespace Dev
section
variable [Inhabited HoleT] {lo j v lim live gen first N : Nat} {W : World} {base : List (List Nat)} {bs : List (List (List Nat))} {sp : List Sp}
attribute [local go_sem ↓] toStBk in
set_option maxRecDepth 100000 in
set_option maxHeartbeats 3200000 in
theorem does_commit_full {B : Nat} {u0 u1 uL : Value} {ls : List (List Nat)} {last : Nat} (h : Cr.Jc lo W j v lim live gen first N base bs sp) (hb0 : Ll B W u0 base) (hb1 : Lb B W u1 bs) (hL : Lr W uL ls) (hLl : ∀ x ∈ ls, x.length ≤ Go.Proofs.YtfimaflglnemdaaDoor.LIM) (hfit : ¬ (journalw gen first base bs).length + (26 + sizes (sho ls)) ≤ lim) :
    Calls Tryd.prog 37 #[.pointer (some ⟨j, 0, none⟩), .agg (bkA u0 u1 last), .agg #[.bool false, uL], .int .i64 (lim : Int)] W fun e w' => e = .returned (.tuple #[.agg (bkA u0 u1 last), .bool true]) ∧ Cr.Jc lo w' j v lim live gen first N base bs sp ∧ Fo lo W w' := by
  obtain ⟨oL, cL, rfl⟩ := hL.sl
  obtain ⟨p0, q0, hu0⟩ := hb0.sl
  obtain ⟨p1, q1, hu1⟩ := hb1.sl
  subst hu0 hu1
  obtain ⟨V, hV⟩ : ∃ V, ((W.alloc (.cells #[.slice p0 base.length q0, .slice p1 bs.length q1, .int .i64 (last : Int)] 30)).alloc (.cells #[.bool false, .slice oL ls.length cL] 32)).alloc (.cells #[.slice none 0 0, .slice none 0 0, .int .i64 0] 30) = V := ⟨_, rfl⟩
  obtain ⟨r0, r1, r2, bV⟩ := row3 W (.cells #[.slice p0 base.length q0, .slice p1 bs.length q1, .int .i64 (last : Int)] 30) (.cells #[.bool false, .slice oL ls.length cL] 32) (.cells #[.slice none 0 0, .slice none 0 0, .int .i64 0] 30)
  rw [hV] at r0 r1 r2 bV
  have c1 : V.cell? ⟨W.heap.size + 1, 1, none⟩ = some (.slice oL ls.length cL) := (cell_of_row _ _ _ _ _ _ r1).trans rfl
  have C1 := short_any V (hL.below bV) hLl
  have gl := sho_gl hL.byt
  have HH := mkHid (And.intro (h.below bV) (And.intro r0 (And.intro r1 (And.intro r2 (And.intro bV gl)))))
  have hlim := h.lim1
  have h_lo := mkHid h.hlo
  clear r0 r1 r2 bV h hL hLl gl hb0 hb1
  unfold bkA
  go_enter Tryd.func37, Tryd.ntmps37
  go_upto_region 1 with fail
  try rw [hV]
  clear hV
  go_wp2_with fail
  refine C1.mono ?_
  rintro e w1 ⟨l0, rfl, k1, b1⟩
  clear C1
  have h1 := HH.out.1.below b1
  have C2 := h1.room
  obtain ⟨rm, hrm⟩ : ∃ rm, lim - (journalw gen first base bs).length = rm := ⟨_, rfl⟩
  rw [hrm] at C2
  have r1b := (b1.block _ (Array.getElem?_eq_some_iff.1 HH.out.2.2.1).1).trans HH.out.2.2.1
  have c2 : w1.cell? ⟨W.heap.size + 1, 0, none⟩ = some (.bool false) := (cell_of_row _ _ _ _ _ _ r1b).trans rfl
  obtain ⟨o0, c0, hl0⟩ := k1.sl
  subst hl0
  have HK := mkHid (And.intro k1 (And.intro b1 h1))
  have hrm2 : rm ≤ lim ∧ (journalw gen first base bs).length + rm ≤ max lim (journalw gen first base bs).length := by omega
  have hrm3 : ∀ z : Nat, ¬ (journalw gen first base bs).length + z ≤ lim → 0 < z → rm < z := by intro z; omega
  replace hrm := mkHid hrm
  clear k1 b1 h1 r1b c1
  go_wp2_with fail
  refine C2.mono ?_
  rintro e w2 ⟨rfl, b2⟩
  clear C2
  have c2b := cell_below b2 c2
  have k2 := HK.out.1.keep (stay_below b2)
  have C3 := lists_any w2 k2.lr (fun x hx => by obtain ⟨y, -, rfl⟩ := sho_mem hx; rw [List.length_take]; unfold Go.Proofs.YtfimaflglnemdaaDoor.LIM; omega) (by have := sho_len ls; omega)
  have HK2 := mkHid (And.intro k2 b2)
  clear k2 b2 c2
  go_wp2_with fail
  refine C3.mono ?_
  rintro e w3 ⟨l3, rfl, k3, b3⟩
  clear C3
  have j3 := (HK.out.2.2.below HK2.out.2).below b3
  have hsz := sho_size ls
  have C4 := j3.commit_full k3 HH.out.2.2.2.2.2 (by omega) hfit
  obtain ⟨o3, c3, hl3⟩ := k3.sl
  subst hl3
  have HK3 := mkHid (And.intro b3 j3)
  clear k3 b3 j3 c2b
  go_wp2_with fail
  refine C4.mono ?_
  rintro e w4 ⟨rfl, b4⟩
  clear C4
  have b24 := HK3.out.1.trans (b4.mono HK3.out.1.size)
  have k4 := HK2.out.1.keep (stay_below b24)
  have C5 := law_size false w4 k4.lr (by omega)
  rw [if_neg (by decide)] at C5
  obtain ⟨z, hz⟩ : ∃ z, 26 + sizes (sho ls) = z := ⟨_, rfl⟩
  rw [hz] at C5
  have hz9 := hrm3 z
  rw [← hz] at hz9
  have hz8 : 26 + sizes (sho ls) = z := hz
  have hzl : (rm : Int) < (z : Int) := by omega
  have j4 := HK3.out.2.below b4
  have bV4 : Below V.heap.size V w4 := HK.out.2.1.trans ((HK2.out.2.trans (b24.mono HK2.out.2.size)).mono HK.out.2.1.size)
  have r0 := (bV4.block _ (Array.getElem?_eq_some_iff.1 HH.out.2.1).1).trans HH.out.2.1
  have r2 := (bV4.block _ (Array.getElem?_eq_some_iff.1 HH.out.2.2.2.1).1).trans HH.out.2.2.2.1
  have bW4 := HH.out.2.2.2.2.1.trans (bV4.mono HH.out.2.2.2.2.1.size)
  have HK4 := mkHid (And.intro j4 (And.intro r0 (And.intro r2 bW4)))
  clear k4 j4 r0 r2 bV4 bW4 b24 b4 hz hz8 hz9 hrm3 hrm2 hfit
  go_wp2_with fail
  refine C5.mono ?_
  rintro e w5 ⟨rfl, hw5⟩
  subst hw5
  clear C5
  have j5 := HK4.out.1.below (below_drew w5)
  have C6 := j5.room
  rw [hrm.out] at C6
  have rd0 : w5.drew.heap[W.heap.size]? = _ := HK4.out.2.1
  have a0 : w5.drew.cell? ⟨W.heap.size, 0, none⟩ = some (.slice p0 base.length q0) ∧ w5.drew.cell? ⟨W.heap.size, 1, none⟩ = some (.slice p1 bs.length q1) ∧ w5.drew.cell? ⟨W.heap.size, 2, none⟩ = some (.int .i64 (last : Int)) := ⟨(cell_of_row _ _ _ _ _ _ rd0).trans rfl, (cell_of_row _ _ _ _ _ _ rd0).trans rfl, (cell_of_row _ _ _ _ _ _ rd0).trans rfl⟩
  have CR : Hid (Calls Tryd.prog 21 #[.pointer (some ⟨j, 0, none⟩)] w5.drew fun e w' => e = .returned (.int .i64 (rm : Int)) ∧ Hid (Below w5.heap.size w5 w') ∧ (w'.cell? ⟨W.heap.size, 0, none⟩ = some (.slice p0 base.length q0) ∧ w'.cell? ⟨W.heap.size, 1, none⟩ = some (.slice p1 bs.length q1) ∧ w'.cell? ⟨W.heap.size, 2, none⟩ = some (.int .i64 (last : Int)))) := C6.mono (fun e w' ⟨e1, e2⟩ => ⟨e1, (below_drew w5).trans e2, cell_below e2 a0.1, cell_below e2 a0.2.1, cell_below e2 a0.2.2⟩)
  have HD : Hid (∀ w', Hid (Below w5.heap.size w5 w') → (stBk (.pointer (some ⟨W.heap.size + 1 + 1, 0, none⟩)) (.agg #[.slice p0 base.length q0, .slice p1 bs.length q1, .int .i64 (last : Int)])).run Tryd.prog w' = .ok () (w'.setRow (W.heap.size + 2) #[.slice p0 base.length q0, .slice p1 bs.length q1, .int .i64 (last : Int)]) ∧ ((w'.setRow (W.heap.size + 2) #[.slice p0 base.length q0, .slice p1 bs.length q1, .int .i64 (last : Int)]).cell? ⟨W.heap.size, 0, none⟩ = some (.slice p0 base.length q0) ∧ (w'.setRow (W.heap.size + 2) #[.slice p0 base.length q0, .slice p1 bs.length q1, .int .i64 (last : Int)]).cell? ⟨W.heap.size, 1, none⟩ = some (.slice p1 bs.length q1) ∧ (w'.setRow (W.heap.size + 2) #[.slice p0 base.length q0, .slice p1 bs.length q1, .int .i64 (last : Int)]).cell? ⟨W.heap.size, 2, none⟩ = some (.int .i64 (last : Int))) ∧ Hid ((w'.setRow (W.heap.size + 2) #[.slice p0 base.length q0, .slice p1 bs.length q1, .int .i64 (last : Int)]).heap[W.heap.size + 2]? = some (.cells #[.slice p0 base.length q0, .slice p1 bs.length q1, .int .i64 (last : Int)] 30 (0, 0)) ∧ Cr.Jc lo (w'.setRow (W.heap.size + 2) #[.slice p0 base.length q0, .slice p1 bs.length q1, .int .i64 (last : Int)]) j v lim live gen first N base bs sp ∧ Fo lo W (w'.setRow (W.heap.size + 2) #[.slice p0 base.length q0, .slice p1 bs.length q1, .int .i64 (last : Int)]))) := by
    intro w' hb
    have hr2 := (hb.out.block _ (Array.getElem?_eq_some_iff.1 HK4.out.2.2.1).1).trans HK4.out.2.2.1
    have hr0 := (hb.out.block _ (Array.getElem?_eq_some_iff.1 HK4.out.2.1).1).trans HK4.out.2.1
    have ht := (HK4.out.1.below hb.out).tc
    have hr0b := (setRow_other w' (W.heap.size + 2) W.heap.size #[.slice p0 base.length q0, .slice p1 bs.length q1, .int .i64 (last : Int)] (by omega)).trans hr0
    refine ⟨st_Bk w' (W.heap.size + 2) _ _ rfl rfl (by simp [Value.oneCell']) hr2, ⟨(cell_of_row _ _ _ _ _ _ hr0b).trans rfl, (cell_of_row _ _ _ _ _ _ hr0b).trans rfl, (cell_of_row _ _ _ _ _ _ hr0b).trans rfl⟩, setRow_heap _ _ _ _ _ _ hr2, ?_, ?_⟩
    · refine (HK4.out.1.below hb.out).free (Fre.setRow hr2 (by decide) (by intro m hm; simp at hm) _) (ht.keep (by rw [size_setRow]; exact Nat.le_refl _) (setRow_other _ _ _ _ ?_))
      have := HK4.out.1.c0
      have := h_lo.out
      omega
    · exact ((Fo.of_below HK4.out.2.2.2).trans (Fo.of_below hb.out)).setRow (by omega) _
  clear C6 j5 rd0
  go_upto_region 10 with fail
  clear hzl
  go_region_held3 (fun w' => w'.cell? ⟨W.heap.size, 0, none⟩ = some (.slice p0 base.length q0) ∧ w'.cell? ⟨W.heap.size, 1, none⟩ = some (.slice p1 bs.length q1) ∧ w'.cell? ⟨W.heap.size, 2, none⟩ = some (.int .i64 (last : Int))) (first | assumption | exact a0)
    (first
      | (go_at_call 21; with_reducible refine Calls.mono CR.out ?_; rintro e w6 ⟨rfl, k6, s6⟩; obtain ⟨st1, st2, st3⟩ := HD.out w6 k6))
  go_wp2_with fail
  refine bodyPost_ret (results_Bk rfl _ _ (W.heap.size + 2) _ rfl rfl st3.out.1) rfl ?_
  exact ⟨rfl, st3.out.2⟩
end
end Dev
end Go.Proofs.YtfimaflglnemdaaDoor

/- JournalCrash: the law's does, any step. -/
namespace Go.Proofs.YtfimaflglnemdaaDoor
open Go.RowKit
open JM
set_option maxRecDepth 20000
namespace Dev
namespace Cr
/-- Between two steps: the journal, its device's moments, and the book as it lies. -/
structure Pc [Inhabited HoleT] (lo : Nat) (W : World) (j v lim B live gen first N : Nat) (base : List (List Nat)) (bs : List (List (List Nat))) (sp : List Sp) (u0 u1 : Value) : Prop where
  jc : Jc lo W j v lim live gen first N base bs sp
  b0 : Ll B W u0 base
  b1 : Lb B W u1 bs
  hB : B ≤ W.heap.size
theorem Jc.f1 [Inhabited HoleT] {lo j v lim live gen first N : Nat} {W : World} {base : List (List Nat)} {bs : List (List (List Nat))} {sp : List Sp} (h : Jc lo W j v lim live gen first N base bs sp) : 1 ≤ first := let ⟨_, _, _, hz⟩ := h.last; hz.f1
end Cr
section
variable [Inhabited HoleT] {lo j v lim B live gen first N : Nat} {W : World} {base : List (List Nat)} {bs : List (List (List Nat))} {sp : List Sp} {u0 u1 uL : Value} {ls : List (List Nat)}
theorem does_anyH (h : Cr.Pc lo W j v lim B live gen first N base bs sp u0 u1) (hL : Lr W uL ls) (hLl : ∀ x ∈ ls, x.length ≤ Go.Proofs.YtfimaflglnemdaaDoor.LIM) (hN : N + 1 ≤ 900000) (hc : sp.length + 3 ≤ 900000) (c : Bool) :
    Calls Tryd.prog 37 #[.pointer (some ⟨j, 0, none⟩), .agg (bkA u0 u1 (first - 1 + bs.length)), .agg #[.bool c, uL], .int .i64 (lim : Int)] W fun e w' => ∃ (live' gen' first' : Nat) (base' : List (List Nat)) (bs' : List (List (List Nat))) (L : List Sp) (u0' u1' : Value), e = .returned (.tuple #[.agg (bkA u0' u1' (first' - 1 + bs'.length)), .bool true]) ∧ Cr.Pc lo w' j v lim B live' gen' first' (N + 1) base' bs' (sp ++ L) u0' u1' ∧ Fo lo W w' ∧ Cr.Few L ∧ (∀ z ∈ L, ∀ k0 k1, Cr.Dsk (N + 1) ⟨base, bs, first - 1 + bs.length⟩ (Cr.crash z k0 k1) ∨ Cr.Dsk (N + 1) ⟨base', bs', first' - 1 + bs'.length⟩ (Cr.crash z k0 k1)) := by
  have hj := h.jc.mono (Nat.le_succ N) hN
  have hg := h.jc.gN
  have hf := h.jc.fN
  have f1 := h.jc.f1
  have kept : ∀ {w' : World}, Cr.Jc lo w' j v lim live gen first (N + 1) base bs sp → Fo lo W w' → Cr.Pc lo w' j v lim B live gen first (N + 1) base bs (sp ++ []) u0 u1 := fun k1 k2 => ⟨by rw [List.append_nil]; exact k1, h.b0.keep (k2.stay ll_ty), h.b1.keep (k2.stay lb_ty), Nat.le_trans h.hB k2.size⟩
  cases c with
  | true =>
    by_cases hfit : 52 + sizes (sho ls) ≤ lim
    · refine (does_compactH hj hL hLl hfit (by omega) hc).mono ?_
      rintro e w' ⟨l0, L, e1, ⟨e2, e3, e4⟩, e5, e6⟩
      have he : first + bs.length - 1 + ([] : List (List (List Nat))).length = first - 1 + bs.length := by simp; omega
      refine ⟨1 - live, gen + 1, first + bs.length, sho ls, [], L, l0, .slice none 0 0, by rw [he]; exact e1, ⟨e3, e2.mono h.hB, Lb.nil _ _, Nat.le_trans h.hB e4.size⟩, e4, e5, fun z hz k0 k1 => ?_⟩
      rw [he]
      exact e6 z hz k0 k1
    · refine (does_compact_full hj h.b0 h.b1 hL hLl hfit).mono ?_
      rintro e w' ⟨e1, e2, e3⟩
      exact ⟨live, gen, first, base, bs, [], u0, u1, e1, kept e2 e3, e3, Cr.Few.nil, fun z hz => by cases hz⟩
  | false =>
    by_cases hfit : (journalw gen first base bs).length + (26 + sizes (sho ls)) ≤ lim
    · refine (does_commitH hj rfl h.b0 h.b1 h.hB hL hLl hfit (by omega) hc).mono ?_
      rintro e w' ⟨l1, L, e1, ⟨e2, e3, e4, e5⟩, e6, e7⟩
      have he : first - 1 + (bs ++ [sho ls]).length = first - 1 + bs.length + 1 := by simp; omega
      exact ⟨live, gen, first, base, bs ++ [sho ls], L, u0, l1, by rw [he]; exact e1, ⟨e4, e2, e3, Nat.le_trans h.hB e5.size⟩, e5, e6, e7⟩
    · refine (does_commit_full hj h.b0 h.b1 hL hLl hfit).mono ?_
      rintro e w' ⟨e1, e2, e3⟩
      exact ⟨live, gen, first, base, bs, [], u0, u1, e1, kept e2 e3, e3, Cr.Few.nil, fun z hz => by cases hz⟩
end
end Dev
end Go.Proofs.YtfimaflglnemdaaDoor
