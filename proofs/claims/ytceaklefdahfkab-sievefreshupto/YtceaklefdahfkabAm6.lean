/- The sieve: all places of all patterns. -/
import Derived.Test.YtceaklefdahfkabAmJ
import Derived.Test.YtceaklefdahfkabSv20
namespace Go.Proofs.Ytceaklefdahfkab
open Go.RowKit
/-- The hit at a place, if there is one. -/
def htA (L : List (List Nat)) (m : Nat) (p : List Nat) (i : Nat) : List (Int × Int) := if (p.drop i).take m ∈ L then [((i : Int), ((L.idxOf ((p.drop i).take m) : Nat) : Int))] else []
/-- All hits. -/
def hts (L : List (List Nat)) (m : Nat) (p : List Nat) : List (Int × Int) := (List.range (p.length + 1 - m)).flatMap (htA L m p)
theorem spc_app (ws : List (List Nat)) (vs : List Nat) (m : Nat) : ∀ (a y b : List Nat), spc ws vs m y (a ++ b) = spc ws vs m y a ++ spc ws vs m (y ++ a) b
  | [], y, b => by simp [spc]
  | c :: a, y, b => by rw [List.cons_append, spc, spc, spc_app ws vs m a (y ++ [c]) b, List.append_assoc, List.append_assoc]; rfl
theorem spc_hts {ws : List (List Nat)} {vs : List Nat} {m : Nat} (h : Wd ws m) (L : List (List Nat)) (h1 : ∀ x, x ∈ ws ↔ x ∈ L) (h2 : ∀ x, x ∈ ws → vs.getD (ws.idxOf x) 0 = L.idxOf x) (p : List Nat) : ∀ k, k ≤ p.length → spc ws vs m [] (p.take k) = (List.range (k + 1 - m)).flatMap (htA L m p)
  | 0, _ => by
    have := h.m0
    rw [show 0 + 1 - m = 0 by omega]; rfl
  | k + 1, hk => by
    have hm := h.m0
    rw [take_snoc (by omega), spc_app, spc_hts h L h1 h2 p k (by omega), List.nil_append, spc, spc, List.append_nil]
    have hz : p.take k ++ [p.getD k 0] = p.take (k + 1) := (take_snoc (by omega)).symm
    have hlk : (p.take k).length = k := by rw [List.length_take]; omega
    have hlk1 : (p.take (k + 1)).length = k + 1 := by rw [List.length_take]; omega
    rw [hz, hlk]
    unfold hitv
    rw [hlk1]
    by_cases hmk : m ≤ k + 1
    · have e1 : k + 1 + 1 - m = (k + 1 - m) + 1 := by omega
      have e2 : (p.take (k + 1)).drop (k + 1 - m) = (p.drop (k + 1 - m)).take m := by rw [List.drop_take, show k + 1 - (k + 1 - m) = m by omega]
      rw [e1, List.range_succ, List.flatMap_append, e2]
      congr 1
      simp only [List.flatMap_cons, List.flatMap_nil, List.append_nil]
      unfold htA
      by_cases hx : (p.drop (k + 1 - m)).take m ∈ ws
      · rw [if_pos hx, if_pos ((h1 _).1 hx), h2 _ hx]
        simp only [List.cons.injEq, Prod.mk.injEq, and_true]
        omega
      · rw [if_neg hx, if_neg fun h3 => hx ((h1 _).2 h3)]
    · rw [show k + 1 + 1 - m = k + 1 - m by omega]
      have hx : ¬ (p.take (k + 1)).drop (k + 1 - m) ∈ ws := fun hx => by
        obtain ⟨j, hj, hj2⟩ := mem_getS hx
        have := h.len j hj
        rw [hj2, List.length_drop, hlk1] at this
        omega
      rw [if_neg hx]
      simp
theorem txt_eq {l : List ByteArray} {i : Nat} (h : i < l.length) : txt l i = l[i] := Option.some.inj ((txt_get h).symm.trans (List.getElem?_eq_getElem h))
/-- Patterns that may be. -/
structure Pt (l : List ByteArray) (m : Nat) : Prop where
  ne : l ≠ []
  m0 : 0 < m
  m1 : m ≤ 64
  ln : l.length ≤ 4096
  sz : ∀ s ∈ l, s.size = m
theorem Pt.wd {l : List ByteArray} {m : Nat} (h : Pt l m) {ns : List Nat} (hn : NewOk l ns) : Wd ((wdS l ns).map tl) m := by
  obtain ⟨hs, ht⟩ := hn
  have hl := wdS_len hs
  have hg : ∀ i, i < l.length → ((wdS l ns).map tl).getD i [] = tl (txt l (ns.getD i 0)) := fun i hi => by
    rw [← wdS_get hs i hi]
    have : i < (wdS l ns).length := by omega
    simp [List.getD, txt, this]
  have hll : ((wdS l ns).map tl).length = l.length := by rw [List.length_map]; exact hl
  refine ⟨h.m0, fun h0 => ?_, fun i hi => ?_, fun i j hij hj => ?_, fun i hi => ?_⟩
  · have : l.length = 0 := by rw [← hll, h0]; rfl
    exact h.ne (List.length_eq_zero_iff.1 this)
  · rw [hll] at hi
    rw [hg i hi, tl_len]
    exact h.sz _ (List.mem_of_getElem? (txt_get (hs.lt i hi)))
  · rw [hll] at hj
    rw [hg i (by omega), hg j hj]
    exact List.not_lt.1 (hs.up i j hij hj)
  · rw [hll] at hi
    rw [hg i (by omega), hg (i + 1) hi]
    exact ht i hi
theorem Pt.wdO {l : List ByteArray} {m : Nat} (h : Pt l m) : wdO l = (m, true) := by
  cases l with
  | nil => exact absurd rfl h.ne
  | cons s r =>
    have h1 := h.sz s (by simp)
    have h2 : allW s.size (s :: r) = true := by
      unfold allW
      rw [List.all_eq_true]
      intro t ht
      rw [decide_eq_true_iff, h.sz t ht, h1]
    have h3 := h.m0
    have h4 := h.m1
    show (s.size, _) = _
    rw [h2, h1, decide_eq_true h3, decide_eq_true h4]
    rfl
/-- What is found in bytes. -/
theorem Pt.fnd {l : List ByteArray} {m : Nat} (h : Pt l m) {ns : List Nat} (hn : NewOk l ns) (p : List Nat) (hp : Byt p) : fnd (ftT ((wdS l ns).map tl) ns m) 0 0 p = hts (l.map tl) m p := by
  have hw := h.wd hn
  obtain ⟨hs, _⟩ := hn
  have hln := h.ln
  have hl := wdS_len hs
  have hll : ((wdS l ns).map tl).length = l.length := by rw [List.length_map]; exact hl
  have hperm : ((wdS l ns).map tl).Perm (l.map tl) := by
    have h1 : (wdS l ns).Perm ((List.range l.length).map (txt l)) := hs.perm.map _
    have h2 : (List.range l.length).map (txt l) = l := by
      apply List.ext_getElem
      · simp
      · intro i q1 q2
        simp [txt, List.getD, q2]
    rw [h2] at h1
    exact h1.map _
  have hnd : (l.map tl).Nodup := hperm.nodup_iff.1 hw.nodup
  have hst := hw.fnd ns (by omega) (fun u hu => by obtain ⟨s, _, rfl⟩ := List.mem_map.1 hu; exact tl_byt s) (by rw [hs.len, hll]) h.m1 p [] 0 hp (gS_pos _ _ _) hw.s0
  rw [show ([] : List Nat).length = 0 from rfl] at hst
  rw [hst]
  have hsp := spc_hts hw (vs := ns) (l.map tl) (fun x => hperm.mem_iff) (fun x hx => ?_) p p.length (Nat.le_refl _)
  · rw [List.take_of_length_le (Nat.le_refl _)] at hsp
    exact hsp
  · have hi : ((wdS l ns).map tl).idxOf x < ((wdS l ns).map tl).length := List.idxOf_lt_length_of_mem hx
    have hx2 : ((wdS l ns).map tl)[((wdS l ns).map tl).idxOf x] = x := List.getElem_idxOf hi
    have hq : ((wdS l ns).map tl).idxOf x < l.length := by omega
    have hk := hs.lt _ hq
    have e : ((wdS l ns).map tl)[((wdS l ns).map tl).idxOf x] = (l.map tl)[ns.getD (((wdS l ns).map tl).idxOf x) 0]'(by simpa using hk) := by
      have e1 := wdS_get hs _ hq
      have e2 : txt (wdS l ns) (((wdS l ns).map tl).idxOf x) = (wdS l ns)[((wdS l ns).map tl).idxOf x]'(by omega) := txt_eq _
      have e3 : txt l (ns.getD (((wdS l ns).map tl).idxOf x) 0) = l[ns.getD (((wdS l ns).map tl).idxOf x) 0]'hk := txt_eq hk
      rw [List.getElem_map, List.getElem_map, ← e2, ← e3, e1]
    have h4 : (l.map tl).idxOf ((l.map tl)[ns.getD (((wdS l ns).map tl).idxOf x) 0]'(by simpa using hk)) = ns.getD (((wdS l ns).map tl).idxOf x) 0 := hnd.idxOf_getElem _ _
    rw [← e, hx2] at h4
    exact h4.symm
end Go.Proofs.Ytceaklefdahfkab
