/- The sieve, fed in pieces: what is found, and what is held. -/
import Derived.Test.YtceaklefdahfkabAm6
namespace Go.Proofs.Ytceaklefdahfkab
open Go.RowKit
/-- The state behind some bytes. -/
def At (ws : List (List Nat)) (m s : Nat) (y : List Nat) : Prop := s < (gS ws (shr ws) (m - 1)).length ∧ (gS ws (shr ws) m).getD s [] = lsf (shP (inS (gS ws (shr ws) m)) m) y
theorem Wd.at0 {ws : List (List Nat)} {m : Nat} (h : Wd ws m) : At ws m 0 [] := ⟨gS_pos _ _ _, h.s0⟩
theorem Wd.stpA {ws : List (List Nat)} {m : Nat} (h : Wd ws m) (vs : List Nat) (hw : ws.length ≤ 4096) (hb : ∀ u ∈ ws, Byt u) (hv : vs.length = ws.length) (hm : m ≤ 64) (y : List Nat) (s c : Nat) (hc : c < 256) (ha : At ws m s y) : At ws m (stp (ftT ws vs m) s c).1 (y ++ [c]) := by
  obtain ⟨hs, he⟩ := ha
  obtain ⟨h1, h2, h3, h4, h5, h6, h7, h8, h9, h10, h11⟩ := h.tbl vs hw hb hv hm
  have hI := h.nx vs hw hb hv hm s c hs hc
  have hG := h.gd vs hw hb hv hm
  have hP : ∀ x, inS (gS ws (shr ws) m) x = true → x.length ≤ m := fun x hx => by
    unfold inS at hx; rw [decide_eq_true_iff] at hx; exact h.memlen hx
  rw [he, ← lsf_go _ m h1.hp hP c y] at hI
  have hpt := h.part _ _ hI
  have hB := h5 _ hI.1
  rw [hI.2] at hB
  by_cases hq : (gS ws (shr ws) (m - 1)).length ≤ Ytceaklefdahfkab.nx (ftT ws vs m) c (s + 1) s
  · obtain ⟨p1, p2, p3⟩ := hpt.1 hq
    have hst : (stp (ftT ws vs m) s c).1 = (ftT ws vs m).backs.getD (Ytceaklefdahfkab.nx (ftT ws vs m) c (s + 1) s) 0 := by
      unfold stp; rw [h7, if_pos hq]
    have hgo := (hG.hit s c hs hc (by rw [h7]; exact hq)).2.2
    have hbk := lsf_bk (inS (gS ws (shr ws) m)) m h.m0 hP (y ++ [c]) (by rw [p1]; exact Nat.le_refl _)
    rw [hst]
    exact ⟨hgo, by rw [hbk]; exact hB.2⟩
  · have hlt := hpt.2 hq
    have hst : (stp (ftT ws vs m) s c).1 = Ytceaklefdahfkab.nx (ftT ws vs m) c (s + 1) s := by
      unfold stp; rw [h7, if_neg hq]
    have hgo := hG.go s c hs hc (by rw [h7]; exact hq)
    rw [hst]
    exact ⟨hgo, by rw [lsf_sh _ m _ hlt]; exact hI.2⟩
theorem Wd.rnA {ws : List (List Nat)} {m : Nat} (h : Wd ws m) (vs : List Nat) (hw : ws.length ≤ 4096) (hb : ∀ u ∈ ws, Byt u) (hv : vs.length = ws.length) (hm : m ≤ 64) : ∀ (p y : List Nat) (s : Nat), Byt p → At ws m s y → At ws m (rn (ftT ws vs m) s p) (y ++ p)
  | [], y, s, _, ha => by rw [List.append_nil]; exact ha
  | c :: p, y, s, hp, ha => by
    have := Wd.rnA h vs hw hb hv hm p (y ++ [c]) _ (fun x hx => hp x (by simp [hx])) (h.stpA vs hw hb hv hm y s c (hp c (by simp)) ha)
    rw [List.append_assoc] at this
    exact this
/-- How deep it stands. -/
theorem Wd.dep {ws : List (List Nat)} {m : Nat} (h : Wd ws m) (vs : List Nat) (hw : ws.length ≤ 4096) (hb : ∀ u ∈ ws, Byt u) (hv : vs.length = ws.length) (hm : m ≤ 64) (y : List Nat) (s : Nat) (ha : At ws m s y) : (ftT ws vs m).depths.getD s 0 = (lsf (shP (inS (gS ws (shr ws) m)) m) y).length := by
  obtain ⟨hs, he⟩ := ha
  obtain ⟨_, _, _, _, _, _, _, _, _, _, h11⟩ := h.tbl vs hw hb hv hm
  have hal := h.all
  have hs2 : s < (gS ws (shr ws) m).length := by omega
  rw [h11, ← he]
  simp [List.getD, hs2]
/-- The last bytes that may be kept. -/
def lastN (m : Nat) (y : List Nat) : List Nat := y.drop (y.length - min (m - 1) y.length)
theorem lastN_len (m : Nat) (y : List Nat) : (lastN m y).length = min (m - 1) y.length := by rw [lastN, List.length_drop]; omega
theorem htA_drop (L : List (List Nat)) (m : Nat) (z : List Nat) (k i : Nat) : (htA L m (z.drop k) i).map (fun x => (x.1 + (k : Int), x.2)) = htA L m z (k + i) := by
  unfold htA
  rw [List.drop_drop]
  by_cases h : (z.drop (k + i)).take m ∈ L
  · rw [if_pos h, if_pos h]
    simp only [List.map_cons, List.map_nil, List.cons.injEq, Prod.mk.injEq, and_true]
    omega
  · rw [if_neg h, if_neg h]; rfl
/-- What a further piece's hits are. -/
theorem spc_last {ws : List (List Nat)} {vs : List Nat} {m : Nat} (h : Wd ws m) (L : List (List Nat)) (h1 : ∀ x, x ∈ ws ↔ x ∈ L) (h2 : ∀ x, x ∈ ws → vs.getD (ws.idxOf x) 0 = L.idxOf x) (y p : List Nat) :
    spc ws vs m y p = (hts L m (lastN m y ++ p)).map (fun x => (x.1 + ((y.length - (lastN m y).length : Nat) : Int), x.2)) := by
  have hm := h.m0
  have a := spc_hts h L h1 h2 (y ++ p) (y ++ p).length (Nat.le_refl _)
  have b := spc_hts h L h1 h2 (y ++ p) y.length (by simp)
  rw [List.take_of_length_le (Nat.le_refl _), spc_app, List.nil_append] at a
  rw [List.take_left'  rfl] at b
  have hl := lastN_len m y
  have hk : y.length - (lastN m y).length = y.length + 1 - m := by omega
  have hz : lastN m y ++ p = (y ++ p).drop (y.length + 1 - m) := by
    rw [List.drop_append_of_le_length (by omega), lastN]
    congr 2
    omega
  have hr : (y ++ p).length + 1 - m = (y.length + 1 - m) + ((lastN m y ++ p).length + 1 - m) := by
    rw [List.length_append, List.length_append, hl]; omega
  rw [hr, List.range_add, List.flatMap_append, ← b] at a
  have c := List.append_cancel_left a
  rw [c, hk, hts, List.map_flatMap, hz, List.flatMap_map]
  congr 1
  funext i
  exact (htA_drop L m (y ++ p) (y.length + 1 - m) i).symm
/-- The greatest k below a bound such that the last k are the first k of a pattern. -/
def hld (L : List (List Nat)) (x : List Nat) : Nat → Nat
  | 0 => 0
  | k + 1 => if ∃ u ∈ L, u.take (k + 1) = x.drop (x.length - (k + 1)) then k + 1 else hld L x k
theorem Wd.inS_iff {ws : List (List Nat)} {m : Nat} (h : Wd ws m) (x : List Nat) (hx : x ≠ []) (hl : x.length ≤ m) : inS (gS ws (shr ws) m) x = true ↔ ∃ u ∈ ws, u.take x.length = x := by
  unfold inS
  rw [decide_eq_true_iff]
  constructor
  · intro hi
    obtain ⟨u, hu, rfl⟩ := mem_getS hi
    rcases h.ex u hu with h1 | ⟨d, i, p1, p2, p3, p4, p5, p6⟩
    · rw [h1, h.s0] at hx; exact absurd rfl hx
    · exact ⟨ws.getD i [], getS_mem p3, by rw [p6, p5]⟩
  · rintro ⟨u, hu, he⟩
    obtain ⟨i, hi, rfl⟩ := mem_getS hu
    have := h.gat x.length i hl hi
    rw [he] at this
    rw [← this]
    have q := idx_lt ws (shr ws) x.length i hi
    exact getS_mem (Nat.lt_of_lt_of_le q (gS_mono ws (shr ws) hl))
theorem hld_le (L : List (List Nat)) (x : List Nat) : ∀ k, hld L x k ≤ k
  | 0 => Nat.le_refl _
  | k + 1 => by
    rw [hld]
    split
    · exact Nat.le_refl _
    · have := hld_le L x k; omega
/-- What is held. -/
theorem Wd.hld {ws : List (List Nat)} {m : Nat} (h : Wd ws m) (L : List (List Nat)) (h1 : ∀ x, x ∈ ws ↔ x ∈ L) (y : List Nat) : (lsf (shP (inS (gS ws (shr ws) m)) m) y).length = Ytceaklefdahfkab.hld L (lastN m y) (min (m - 1) y.length) := by
  have hm := h.m0
  have hll := lastN_len m y
  generalize hP : shP (inS (gS ws (shr ws) m)) m = P
  have PI : ∀ k, 0 < k → k ≤ min (m - 1) y.length → (P (y.drop (y.length - k)) = true ↔ ∃ u ∈ L, u.take k = (lastN m y).drop ((lastN m y).length - k)) := fun k h0 hk => by
    have e : (lastN m y).drop ((lastN m y).length - k) = y.drop (y.length - k) := by
      rw [hll, lastN, List.drop_drop]; congr 1; omega
    have hlen : (y.drop (y.length - k)).length = k := by rw [List.length_drop]; omega
    have hne : y.drop (y.length - k) ≠ [] := fun h3 => by rw [h3] at hlen; simp at hlen; omega
    rw [e, ← hP]
    unfold shP
    rw [hlen, decide_eq_true (show k < m by omega), Bool.and_true, h.inS_iff _ hne (by omega), hlen]
    exact ⟨fun ⟨u, hu, he⟩ => ⟨u, (h1 u).1 hu, he⟩, fun ⟨u, hu, he⟩ => ⟨u, (h1 u).2 hu, he⟩⟩
  have SP : ∀ x, P x = true → x.length < m := fun x hx => by
    rw [← hP] at hx
    unfold shP at hx
    rw [Bool.and_eq_true, decide_eq_true_iff] at hx
    exact hx.2
  have hb : (lsf P y).length ≤ min (m - 1) y.length := by
    have q1 := lsf_len P y
    rcases lsf_P P y with q | q
    · rw [q]; simp
    · have := SP _ q
      omega
  have key : ∀ k, k ≤ min (m - 1) y.length → (lsf P y).length ≤ k → (lsf P y).length = Ytceaklefdahfkab.hld L (lastN m y) k := by
    intro k
    induction k with
    | zero => intro _ h3; show _ = 0; omega
    | succ k ih =>
      intro h3 h4
      rw [Ytceaklefdahfkab.hld]
      by_cases hc : ∃ u ∈ L, u.take (k + 1) = (lastN m y).drop ((lastN m y).length - (k + 1))
      · rw [if_pos hc]
        have := lsf_ge P y (k + 1) (by omega) ((PI (k + 1) (by omega) h3).2 hc)
        omega
      · rw [if_neg hc]
        refine ih (by omega) ?_
        by_cases h5 : (lsf P y).length = k + 1
        · exfalso
          apply hc
          apply (PI (k + 1) (by omega) h3).1
          have h6 := lsf_suf P y
          rw [h5] at h6
          rw [← h6]
          rcases lsf_P P y with q | q
          · rw [q] at h5; simp at h5
          · exact q
        · omega
  exact key _ (Nat.le_refl _) hb
end Go.Proofs.Ytceaklefdahfkab
