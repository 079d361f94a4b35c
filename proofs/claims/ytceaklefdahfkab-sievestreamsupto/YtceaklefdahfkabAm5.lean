/- The sieve's automaton: what it finds. -/
import Derived.Test.YtceaklefdahfkabAm4
namespace Go.Proofs.Ytceaklefdahfkab
open Go.RowKit
theorem lsf_len (P : List Nat → Bool) : ∀ z, (lsf P z).length ≤ z.length
  | [] => Nat.le_refl _
  | a :: z => by
    rw [lsf]
    split
    · exact Nat.le_refl _
    · have := lsf_len P z; rw [List.length_cons]; omega
theorem lsf_suf (P : List Nat → Bool) : ∀ z, lsf P z = z.drop (z.length - (lsf P z).length)
  | [] => rfl
  | a :: z => by
    by_cases h : P (a :: z) = true
    · have e : lsf P (a :: z) = a :: z := by rw [lsf, if_pos h]
      rw [e, Nat.sub_self]; rfl
    · have e : lsf P (a :: z) = lsf P z := by rw [lsf, if_neg h]
      have hl := lsf_len P z
      rw [e, List.length_cons, show z.length + 1 - (lsf P z).length = (z.length - (lsf P z).length) + 1 by omega, List.drop_succ_cons]
      exact lsf_suf P z
theorem lsf_P (P : List Nat → Bool) : ∀ z, lsf P z = [] ∨ P (lsf P z) = true
  | [] => .inl rfl
  | a :: z => by
    by_cases h : P (a :: z) = true
    · have e : lsf P (a :: z) = a :: z := by rw [lsf, if_pos h]
      rw [e]; exact .inr h
    · have e : lsf P (a :: z) = lsf P z := by rw [lsf, if_neg h]
      rw [e]; exact lsf_P P z
theorem lsf_ge (P : List Nat → Bool) : ∀ z k, k ≤ z.length → P (z.drop (z.length - k)) = true → k ≤ (lsf P z).length
  | [], k, h, _ => h
  | a :: z, k, h, hp => by
    by_cases h1 : P (a :: z) = true
    · have e : lsf P (a :: z) = a :: z := by rw [lsf, if_pos h1]
      rw [e]; exact h
    · have e : lsf P (a :: z) = lsf P z := by rw [lsf, if_neg h1]
      rw [e]
      by_cases h2 : k = z.length + 1
      · subst h2
        rw [List.length_cons, Nat.sub_self] at hp
        exact absurd hp h1
      · rw [List.length_cons] at h
        refine lsf_ge P z k (by omega) ?_
        rw [List.length_cons, show z.length + 1 - k = (z.length - k) + 1 by omega, List.drop_succ_cons] at hp
        exact hp
/-- .. and which are shorter. -/
def shP (P : List Nat → Bool) (m : Nat) (x : List Nat) : Bool := P x && decide (x.length < m)
theorem lsf_sh (P : List Nat → Bool) (m : Nat) : ∀ z, (lsf P z).length < m → lsf (shP P m) z = lsf P z
  | [], _ => rfl
  | a :: z, h => by
    by_cases h1 : P (a :: z) = true
    · have e : lsf P (a :: z) = a :: z := by rw [lsf, if_pos h1]
      rw [e] at h ⊢
      rw [lsf, if_pos (by unfold shP; rw [h1, decide_eq_true h]; rfl)]
    · have e : lsf P (a :: z) = lsf P z := by rw [lsf, if_neg h1]
      rw [e] at h ⊢
      rw [lsf, if_neg (by unfold shP; rw [Bool.and_eq_true]; exact fun h2 => h1 h2.1)]
      exact lsf_sh P m z h
theorem lsf_bk (P : List Nat → Bool) (m : Nat) (hm : 0 < m) (hP : ∀ x, P x = true → x.length ≤ m) : ∀ z, m ≤ (lsf P z).length → lsf (shP P m) z = bkf P (lsf P z)
  | [], h => by simp [lsf] at h; omega
  | a :: z, h => by
    by_cases h1 : P (a :: z) = true
    · have e : lsf P (a :: z) = a :: z := by rw [lsf, if_pos h1]
      have hl := hP _ h1
      rw [List.length_cons] at hl
      rw [e] at h ⊢
      rw [List.length_cons] at h
      rw [lsf, if_neg (by unfold shP; rw [Bool.and_eq_true, decide_eq_true_iff, List.length_cons]; omega), bkf]
      exact lsf_sh P m z (by have := lsf_len P z; omega)
    · have e : lsf P (a :: z) = lsf P z := by rw [lsf, if_neg h1]
      rw [e] at h ⊢
      rw [lsf, if_neg (by unfold shP; rw [Bool.and_eq_true]; exact fun h2 => h1 h2.1)]
      exact lsf_bk P m hm hP z h
theorem lsf_go (P : List Nat → Bool) (m : Nat) (hp : ∀ x c, P (x ++ [c]) = true → P x = true) (hP : ∀ x, P x = true → x.length ≤ m) (c : Nat) : ∀ y, lsf P (y ++ [c]) = lsf P (lsf (shP P m) y ++ [c])
  | [] => rfl
  | a :: y => by
    by_cases h : shP P m (a :: y) = true
    · rw [lsf, if_pos h]
    · have h' : ¬ P (a :: (y ++ [c])) = true := fun h2 => by
        apply h
        have h3 := hP _ h2
        unfold shP
        rw [Bool.and_eq_true, decide_eq_true_iff]
        refine ⟨hp (a :: y) c h2, ?_⟩
        simp at h3 ⊢; omega
      rw [lsf, if_neg h, List.cons_append, lsf, if_neg h']
      exact lsf_go P m hp hP c y
/-- What ends with a text's last byte. -/
def hitv (ws : List (List Nat)) (vs : List Nat) (m : Nat) (z : List Nat) : Option Nat := if z.drop (z.length - m) ∈ ws then some (vs.getD (ws.idxOf (z.drop (z.length - m))) 0) else none
/-- The hits, byte by byte. -/
def spc (ws : List (List Nat)) (vs : List Nat) (m : Nat) : List Nat → List Nat → List (Int × Int)
  | _, [] => []
  | y, c :: l => (match hitv ws vs m (y ++ [c]) with | some x => [((y.length : Int) + 1 - (m : Int), (x : Int))] | none => []) ++ spc ws vs m (y ++ [c]) l
theorem Wd.nodup {ws : List (List Nat)} {m : Nat} (h : Wd ws m) : ws.Nodup := by
  rw [List.nodup_iff_pairwise_ne, List.pairwise_iff_getElem]
  intro i j hi hj hij he
  have e1 : ws.getD i [] = ws[i] := by simp [List.getD, hi]
  have e2 : ws.getD j [] = ws[j] := by simp [List.getD, hj]
  rw [← e1, ← e2] at he
  have f1 := h.full i hi
  have f2 := h.full j hj
  have := h.inj _ _ (by rw [h.all]; omega) (by rw [h.all]; omega) (f1.trans (he.trans f2.symm))
  omega
theorem Wd.memlen {ws : List (List Nat)} {m : Nat} (h : Wd ws m) {x : List Nat} (hx : x ∈ gS ws (shr ws) m) : x.length ≤ m := by
  obtain ⟨u, hu, rfl⟩ := mem_getS hx
  rcases h.ex u hu with h1 | ⟨d, i, _, p2, _, _, _, p6⟩
  · rw [h1, h.s0]; simp
  · omega
theorem Wd.tbl {ws : List (List Nat)} {m : Nat} (h : Wd ws m) (vs : List Nat) (hw : ws.length ≤ 4096) (hb : ∀ u ∈ ws, Byt u) (hv : vs.length = ws.length) (hm : m ≤ 64) : Au (gS ws (shr ws) m) (ftT ws vs m) ∧ Bk (ftT ws vs m) ∧ Bd (ftT ws vs m) ∧ RR (gS ws (shr ws) m) (ftT ws vs m) ∧ RB (gS ws (shr ws) m) (ftT ws vs m) (gS ws (shr ws) m).length ∧ 0 < (ftT ws vs m).rows.length ∧
    (ftT ws vs m).firsts.length - 1 = (gS ws (shr ws) (m - 1)).length ∧ 2 ≤ (ftT ws vs m).firsts.length ∧ (ftT ws vs m).values = vs ∧ (ftT ws vs m).width = m ∧ (ftT ws vs m).depths = (gS ws (shr ws) m).map List.length := by
  have ha := h.au vs
  have hk := mkT_bk ws vs m
  have hd := mkT_bd ws vs m hw (by omega) hm
  have hy := mkT_byt ws vs m hb hm
  have h2 := mkT_firsts ws vs m
  have hr := lbS_right ha hk hd hy.1 rfl rfl ((mkT ws vs m).firsts.length - 1) (by omega)
  obtain ⟨h3, h4, h5⟩ := lbS_ok (mkT ws vs m) hk hd rfl ((mkT ws vs m).firsts.length - 1) (by omega)
  obtain ⟨e1, e2, e3, e4, e5⟩ := lbS_same (mkT ws vs m) ((mkT ws vs m).firsts.length - 1)
  rw [ha.fe] at hr
  refine ⟨ha.same e1 e2, h3, h4, hr.1, hr.2, ?_, ?_, ?_, e5, e3, ?_⟩
  · show 0 < (lbS _ _).rows.length; rw [h5]; omega
  · show (lbS _ _).firsts.length - 1 = _; rw [e1]; exact h.parts vs
  · show 2 ≤ (lbS _ _).firsts.length; rw [e1]; exact h2
  · show (lbS _ _).depths = _; rw [e4]; exact (lS_gS ws (shr ws) m h.len m (Nat.le_refl _)).2
theorem Wd.wk {ws : List (List Nat)} {m : Nat} (h : Wd ws m) (vs : List Nat) (hw : ws.length ≤ 4096) (hb : ∀ u ∈ ws, Byt u) (hv : vs.length = ws.length) (hm : m ≤ 64) : Wk (ftT ws vs m) := by
  obtain ⟨h1, h2, h3, h4, h5, h6, h7, h8, h9, h10, h11⟩ := h.tbl vs hw hb hv hm
  have hy := mkT_byt ws vs m hb hm
  obtain ⟨e1, e2, e3, e4, e5⟩ := lbS_same (mkT ws vs m) ((mkT ws vs m).firsts.length - 1)
  refine ⟨h3, ?_, h6, ?_, by omega, by omega, ?_⟩
  · show Byt (lbS _ _).letters; rw [e2]; exact hy.1
  · rw [h1.ll]; exact gS_pos _ _ _
  · show Byt (lbS _ _).depths; rw [e4]; exact hy.2
/-- One byte more. -/
theorem Wd.nx {ws : List (List Nat)} {m : Nat} (h : Wd ws m) (vs : List Nat) (hw : ws.length ≤ 4096) (hb : ∀ u ∈ ws, Byt u) (hv : vs.length = ws.length) (hm : m ≤ 64) (s c : Nat) (hs : s < (gS ws (shr ws) (m - 1)).length) (hc : c < 256) : Isx (gS ws (shr ws) m) (nx (ftT ws vs m) c (s + 1) s) (lsf (inS (gS ws (shr ws) m)) ((gS ws (shr ws) m).getD s [] ++ [c])) := by
  obtain ⟨h1, h2, h3, h4, h5, h6, h7, h8, _⟩ := h.tbl vs hw hb hv hm
  have := h.all
  exact nx_right h1 h2 h4 _ h5 h6 c hc (s + 1) s (by omega) (by omega) (by omega)
theorem Wd.part {ws : List (List Nat)} {m : Nat} (h : Wd ws m) (v : Nat) (x : List Nat) (hx : Isx (gS ws (shr ws) m) v x) : ((gS ws (shr ws) (m - 1)).length ≤ v → x.length = m ∧ v - (gS ws (shr ws) (m - 1)).length < ws.length ∧ x = ws.getD (v - (gS ws (shr ws) (m - 1)).length) []) ∧ (¬ (gS ws (shr ws) (m - 1)).length ≤ v → x.length < m) := by
  have hal := h.all
  refine ⟨fun h1 => ?_, fun h1 => ?_⟩
  · have h2 := hx.1
    have hk : v - (gS ws (shr ws) (m - 1)).length < ws.length := by omega
    have := h.full _ hk
    rw [show (gS ws (shr ws) (m - 1)).length + (v - (gS ws (shr ws) (m - 1)).length) = v by omega, hx.2] at this
    exact ⟨by rw [this]; exact h.len _ hk, hk, this⟩
  · rw [← hx.2]; exact h.short v (by omega)
theorem Wd.gd {ws : List (List Nat)} {m : Nat} (h : Wd ws m) (vs : List Nat) (hw : ws.length ≤ 4096) (hb : ∀ u ∈ ws, Byt u) (hv : vs.length = ws.length) (hm : m ≤ 64) : Gd (ftT ws vs m) (fun s => s < (gS ws (shr ws) (m - 1)).length) := by
  obtain ⟨h1, h2, h3, h4, h5, h6, h7, h8, h9, h10, h11⟩ := h.tbl vs hw hb hv hm
  have hal := h.all
  have hll := h1.ll
  have hbl := h3.ll
  refine ⟨fun s hs => by omega, fun s hs s' q1 q2 => h2.nw (by omega) (by omega), fun s hs => by rw [h11, List.length_map]; omega, fun s c hs hc => ?_, fun s c hs hc q => ?_, fun s c hs hc q => ?_⟩
  · have := (h.nx vs hw hb hv hm s c hs hc).1; omega
  · have hI := h.nx vs hw hb hv hm s c hs hc
    rw [h7] at q ⊢
    have hp := (h.part _ _ hI).1 q
    have hB := h5 _ hI.1
    rw [hI.2] at hB
    refine ⟨by rw [h9, hv]; exact hp.2.1, by rw [h2.bl, hll]; exact hI.1, ?_⟩
    have hl2 : (bkf (inS (gS ws (shr ws) m)) (lsf (inS (gS ws (shr ws) m)) ((gS ws (shr ws) m).getD s [] ++ [c]))).length < m := by
      have hp1 := hp.1
      have hm0 := h.m0
      revert hp1
      generalize lsf (inS (gS ws (shr ws) m)) ((gS ws (shr ws) m).getD s [] ++ [c]) = x
      intro hp1
      cases x with
      | nil => simp at hp1; omega
      | cons a x => rw [bkf]; have := lsf_len (inS (gS ws (shr ws) m)) x; simp at hp1; omega
    rcases Nat.lt_or_ge ((ftT ws vs m).backs.getD (Ytceaklefdahfkab.nx (ftT ws vs m) c (s + 1) s) 0) (gS ws (shr ws) (m - 1)).length with h12 | h12
    · exact h12
    · have := ((h.part _ _ hB).1 h12).1; omega
  · rw [h7] at q; omega
/-- What is found from a place on. -/
theorem Wd.fnd {ws : List (List Nat)} {m : Nat} (h : Wd ws m) (vs : List Nat) (hw : ws.length ≤ 4096) (hb : ∀ u ∈ ws, Byt u) (hv : vs.length = ws.length) (hm : m ≤ 64) : ∀ (p y : List Nat) (s : Nat), Byt p → s < (gS ws (shr ws) (m - 1)).length → (gS ws (shr ws) m).getD s [] = lsf (shP (inS (gS ws (shr ws) m)) m) y → fnd (ftT ws vs m) s y.length p = spc ws vs m y p
  | [], _, _, _, _, _ => rfl
  | c :: p, y, s, hp, hs, he => by
    obtain ⟨h1, h2, h3, h4, h5, h6, h7, h8, h9, h10, h11⟩ := h.tbl vs hw hb hv hm
    have hc : c < 256 := hp c (by simp)
    have hI := h.nx vs hw hb hv hm s c hs hc
    have hG := h.gd vs hw hb hv hm
    have hP : ∀ x, inS (gS ws (shr ws) m) x = true → x.length ≤ m := fun x hx => by
      unfold inS at hx; rw [decide_eq_true_iff] at hx; exact h.memlen hx
    rw [he, ← lsf_go _ m h1.hp hP c y] at hI
    have hpt := h.part _ _ hI
    have hB := h5 _ hI.1
    rw [hI.2] at hB
    have hsuf := lsf_suf (inS (gS ws (shr ws) m)) (y ++ [c])
    rw [Ytceaklefdahfkab.fnd, spc]
    have hlen : y.length + 1 = (y ++ [c]).length := by simp
    by_cases hq : (gS ws (shr ws) (m - 1)).length ≤ Ytceaklefdahfkab.nx (ftT ws vs m) c (s + 1) s
    · obtain ⟨p1, p2, p3⟩ := hpt.1 hq
      have hst : stp (ftT ws vs m) s c = ((ftT ws vs m).backs.getD (Ytceaklefdahfkab.nx (ftT ws vs m) c (s + 1) s) 0, some (vs.getD (Ytceaklefdahfkab.nx (ftT ws vs m) c (s + 1) s - (gS ws (shr ws) (m - 1)).length) 0)) := by
        unfold stp; rw [h7, if_pos hq, h9]
      have hgo := (hG.hit s c hs hc (by rw [h7]; exact hq)).2.2
      rw [p1] at hsuf
      have hbk := lsf_bk (inS (gS ws (shr ws) m)) m h.m0 hP (y ++ [c]) (by rw [p1]; exact Nat.le_refl _)
      have ih := Wd.fnd h vs hw hb hv hm p (y ++ [c]) _ (fun x hx => hp x (by simp [hx])) hgo (by rw [hbk]; exact hB.2)
      have hz : (y ++ [c]).drop ((y ++ [c]).length - m) = ws.getD (Ytceaklefdahfkab.nx (ftT ws vs m) c (s + 1) s - (gS ws (shr ws) (m - 1)).length) [] := by rw [← hsuf]; exact p3
      have hiv : hitv ws vs m (y ++ [c]) = some (vs.getD (Ytceaklefdahfkab.nx (ftT ws vs m) c (s + 1) s - (gS ws (shr ws) (m - 1)).length) 0) := by
        unfold hitv
        rw [hz, if_pos (getS_mem p2)]
        congr 2
        have e : ws.getD (Ytceaklefdahfkab.nx (ftT ws vs m) c (s + 1) s - (gS ws (shr ws) (m - 1)).length) [] = ws[Ytceaklefdahfkab.nx (ftT ws vs m) c (s + 1) s - (gS ws (shr ws) (m - 1)).length] := by simp only [List.getD, List.getElem?_eq_getElem p2]; rfl
        rw [e]
        exact h.nodup.idxOf_getElem _ p2
      rw [hst, hiv, h10, hlen]
      simp only
      rw [ih]
    · have hlt := hpt.2 hq
      have hst : stp (ftT ws vs m) s c = (Ytceaklefdahfkab.nx (ftT ws vs m) c (s + 1) s, none) := by
        unfold stp; rw [h7, if_neg hq]
      have hgo := hG.go s c hs hc (by rw [h7]; exact hq)
      have ih := Wd.fnd h vs hw hb hv hm p (y ++ [c]) _ (fun x hx => hp x (by simp [hx])) hgo (by rw [lsf_sh _ m _ hlt]; exact hI.2)
      have hiv : hitv ws vs m (y ++ [c]) = none := by
        unfold hitv
        rw [if_neg]
        intro h12
        have hl12 : ((y ++ [c]).drop ((y ++ [c]).length - m)).length = m := by
          obtain ⟨j, hj, hj2⟩ := mem_getS h12
          rw [← hj2]; exact h.len j hj
        have hmz : m ≤ (y ++ [c]).length := by rw [List.length_drop] at hl12; omega
        obtain ⟨j, hj, hj2⟩ := mem_getS h12
        have := lsf_ge (inS (gS ws (shr ws) m)) (y ++ [c]) m hmz (by
          rw [← hj2, ← h.full j hj]
          unfold inS; rw [decide_eq_true_iff]
          exact getS_mem (by rw [h.all]; omega))
        omega
      rw [hst, hiv, hlen]
      simp only [List.nil_append]
      exact ih
end Go.Proofs.Ytceaklefdahfkab
