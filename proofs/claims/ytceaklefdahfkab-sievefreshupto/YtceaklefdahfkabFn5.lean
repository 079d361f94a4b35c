/- SieveFinds: what holds of the hits. -/
import Derived.Test.YtceaklefdahfkabFnJ
import Derived.Test.YtceaklefdahfkabSv21
import Derived.Test.YtceaklefdahfkabSv8
import Derived.Lib.AppendStr
namespace Go.Proofs.Ytceaklefdahfkab
open Go.RowKit
/-- A hit that stands: its place and its number. -/
def Sth (L : List (List Nat)) (m : Nat) (d : List Nat) (x : Int × Int) : Prop := ∃ i k : Nat, x = ((i : Int), (k : Int)) ∧ i + m ≤ d.length ∧ k < L.length ∧ L.getD k [] = (d.drop i).take m
theorem hts_ok (L : List (List Nat)) (m : Nat) (d : List Nat) : ∀ N, N ≤ d.length + 1 - m → ((List.range N).flatMap (htA L m d)).Pairwise (fun x y => x.1 < y.1) ∧ (∀ x ∈ (List.range N).flatMap (htA L m d), Sth L m d x ∧ x.1 < (N : Int))
  | 0, _ => by simp
  | N + 1, h => by
    obtain ⟨h1, h2⟩ := hts_ok L m d N (by omega)
    rw [List.range_succ, List.flatMap_append]
    simp only [List.flatMap_cons, List.flatMap_nil, List.append_nil]
    have h3 : ∀ x ∈ htA L m d N, Sth L m d x ∧ x.1 = (N : Int) := fun x hx => by
      unfold htA at hx
      by_cases h4 : (d.drop N).take m ∈ L
      · rw [if_pos h4] at hx
        rw [List.mem_singleton.1 hx]
        have h5 := List.idxOf_lt_length_of_mem h4
        refine ⟨⟨N, _, rfl, by omega, h5, ?_⟩, rfl⟩
        simp only [List.getD, List.getElem?_eq_getElem h5, Option.getD_some]
        exact List.getElem_idxOf h5
      · rw [if_neg h4] at hx; cases hx
    refine ⟨List.pairwise_append.2 ⟨h1, ?_, fun x hx y hy => ?_⟩, fun x hx => ?_⟩
    · unfold htA
      split
      · exact List.pairwise_singleton _ _
      · exact List.Pairwise.nil
    · rw [(h3 y hy).2]; exact (h2 x hx).2
    · rcases List.mem_append.1 hx with h4 | h4
      · have := (h2 x h4).2
        exact ⟨(h2 x h4).1, by omega⟩
      · exact ⟨(h3 x h4).1, by rw [(h3 x h4).2]; omega⟩
theorem hts_get (L : List (List Nat)) (m : Nat) (d : List Nat) (j : Nat) (hj : j < (hts L m d).length) : Sth L m d ((hts L m d).getD j (0, 0)) := by
  have e : (hts L m d).getD j (0, 0) = (hts L m d)[j] := by simp [List.getD, hj]
  rw [e]
  exact ((hts_ok L m d _ (Nat.le_refl _)).2 _ (List.getElem_mem hj)).1
theorem hts_up (L : List (List Nat)) (m : Nat) (d : List Nat) (j : Nat) (hj : j + 1 < (hts L m d).length) : ((hts L m d).getD j (0, 0)).1 < ((hts L m d).getD (j + 1) (0, 0)).1 := by
  have e : (hts L m d).getD j (0, 0) = (hts L m d)[j]'(by omega) := by simp [List.getD, show j < (hts L m d).length by omega]
  have e2 : (hts L m d).getD (j + 1) (0, 0) = (hts L m d)[j + 1] := by simp [List.getD, hj]
  rw [e, e2]
  exact List.pairwise_iff_getElem.1 (hts_ok L m d _ (Nat.le_refl _)).1 j (j + 1) (show j < (hts L m d).length by omega) hj (by omega)
theorem hts_len (L : List (List Nat)) (m : Nat) (d : List Nat) (hm : 0 < m) : (hts L m d).length ≤ d.length := by
  have := hcn_le L m d (d.length + 1 - m)
  unfold hcn at this
  show (List.length _) ≤ _
  unfold hts
  omega
theorem hts_rg (L : List (List Nat)) (hl : L.length ≤ 1073741824) (m : Nat) (d : List Nat) (hd : d.length ≤ 1073741900) : Rg (hts L m d) := fun j => by
  by_cases hj : j < (hts L m d).length
  · obtain ⟨i, k, h1, h2, h3, _⟩ := hts_get L m d j hj
    rw [h1]
    unfold I64
    constructor <;> constructor <;> simp only <;> omega
  · have : (hts L m d).getD j (0, 0) = (0, 0) := by simp [List.getD, hj]
    rw [this]; unfold I64; simp
/-- What ends with a word is found. -/
theorem hts_ne (L : List (List Nat)) (m : Nat) (d x : List Nat) (hx : x ∈ L) (hl : x.length = m) : 0 < (hts L m (d ++ x)).length := by
  have hmem : (((d.length : Nat) : Int), ((L.idxOf x : Nat) : Int)) ∈ hts L m (d ++ x) := by
    unfold hts
    rw [List.mem_flatMap]
    refine ⟨d.length, List.mem_range.2 (by rw [List.length_append]; omega), ?_⟩
    unfold htA
    have e : ((d ++ x).drop d.length).take m = x := by rw [List.drop_left, List.take_of_length_le (by omega)]
    rw [e, if_pos hx]
    simp
  exact List.length_pos_of_mem hmem
/-- The law's own words. -/
theorem wds_pt (l : List ByteArray) (m n : Nat) (hn : 0 < n) (hn2 : n ≤ 24) (hm : 2 ≤ m) (hm2 : m ≤ 17) : Pt (wds l m n) m := by
  refine ⟨fun h => ?_, by omega, by omega, by rw [wds_len]; omega, fun s hs => ?_⟩
  · have := wds_len l m n
    rw [h] at this
    simp at this; omega
  · obtain ⟨j, _, rfl⟩ := List.mem_map.1 hs
    rw [bst_size, wrd_len]
theorem wds_get (l : List ByteArray) (m n j : Nat) (hj : j < n) : tl (txt (wds l m n) j) = wrd (txt l j) m j := by
  have : txt (wds l m n) j = bst (wrd (txt l j) m j) := by
    rw [txt_eq (by rw [wds_len]; exact hj)]
    simp [wds]
  rw [this, tl_bst _ (wrd_byt _ _ _)]
theorem wds_inj (l : List ByteArray) (m n : Nat) (hn2 : n ≤ 24) (hm : 2 ≤ m) (i j : Nat) (hi : i < n) (hj : j < n) (h : tl (txt (wds l m n) i) = tl (txt (wds l m n) j)) : i = j := by
  rw [wds_get l m n i hi, wds_get l m n j hj] at h
  have e : ∀ k, k < n → (wrd (txt l k) m k).getD (m - 1) 0 = k % 256 := fun k _ => by
    unfold wrd
    rw [List.getD, List.getElem?_set_self (by rw [wrd0_len]; omega)]; rfl
  have h1 := e i hi
  rw [h, e j hj] at h1
  omega
theorem wds_ok (l : List ByteArray) (m n : Nat) (hn : 0 < n) (hn2 : n ≤ 24) (hm : 2 ≤ m) (hm2 : m ≤ 17) (e : Ending) (w' : World) (h : NewP (wds l m n) e w') :
    ∃ ns, NewOk (wds l m n) ns ∧ ∃ g gt, e = .returned (.tuple #[.pointer (some ⟨g, 0, none⟩), .int .i64 0]) ∧ Sve g gt w' ∧ TabK w'.heap.size gt (ftT ((wdS (wds l m n) ns).map tl) ns m) w' := by
  have hp := wds_pt l m n hn hn2 hm hm2
  have hw := hp.wdO
  have hl := wds_len l m n
  rcases h with ⟨h1, _⟩ | ⟨_, h1, _⟩ | ⟨_, _, ns, hs, ⟨i, hi, ht⟩, _⟩ | ⟨_, _, ns, hok, g, gt, he, h1, h2⟩
  · omega
  · rw [hw] at h1; cases h1
  · rw [hl] at hi
    have q1 := hs.lt i (by omega)
    have q2 := hs.lt (i + 1) (by omega)
    rw [hl] at q1 q2
    have := wds_inj l m n hn2 hm _ _ q1 q2 ht
    have hnd : ns.Nodup := hs.perm.nodup_iff.2 List.nodup_range
    have hnl := hs.len
    have e1 : ns.getD i 0 = ns[i]'(by omega) := by simp [List.getD, show i < ns.length by omega]
    have e2 : ns.getD (i + 1) 0 = ns[i + 1]'(by omega) := by simp [List.getD, show i + 1 < ns.length by omega]
    rw [e1, e2] at this
    have := (List.getElem_inj (h₀ := by omega) (h₁ := by omega) hnd).1 this
    omega
  · rw [hw] at h2
    exact ⟨ns, hok, g, gt, he, h1, h2⟩
theorem wds_nodup (l : List ByteArray) (m n : Nat) (hn2 : n ≤ 24) (hm : 2 ≤ m) : ((wds l m n).map tl).Nodup := by
  rw [List.nodup_iff_pairwise_ne, List.pairwise_iff_getElem]
  intro i j hi hj hij he
  have hl := wds_len l m n
  simp only [List.length_map] at hi hj
  rw [List.getElem_map, List.getElem_map, ← txt_eq hi, ← txt_eq hj] at he
  have := wds_inj l m n hn2 hm i j (by omega) (by omega) he
  omega
/-- Scan, of a sieve of such words. -/
theorem scan_hts (ws : List ByteArray) (m : Nat) (hp : Pt ws m) (ns : List Nat) (hn : NewOk ws ns) (g gt : Nat) (p : List Nat) (hpb : Byt p) (hpl : p.length ≤ 1099511627776) (pv : Value) (w : World) (h : Sve g gt w) (ht : TabK w.heap.size gt (ftT ((wdS ws ns).map tl) ns m) w) (hpv : Si .u8 pv p w) :
    Calls Try.prog 11 #[.pointer (some ⟨g, 0, none⟩), pv] w fun e w' => ∃ v, e = .returned v ∧ w'.ownsRow w.heap.size 39 2 v (hts (ws.map tl) m p).length (hc (hts (ws.map tl) m p)) ∧ Below w.heap.size w w' := by
  have hw := hp.wd hn
  have hln := hp.ln
  have hl := wdS_len hn.1
  have hll : ((wdS ws ns).map tl).length = ws.length := by rw [List.length_map]; exact hl
  have hb : ∀ u ∈ (wdS ws ns).map tl, Byt u := fun u hu => by obtain ⟨s, _, rfl⟩ := List.mem_map.1 hu; exact tl_byt s
  have hv : ns.length = ((wdS ws ns).map tl).length := by rw [hn.1.len, hll]
  have hf := hp.fnd hn p hpb
  have := scan_any g gt _ (hw.wk ns (by omega) hb hv hp.m1) _ (hw.gd ns (by omega) hb hv hp.m1) (gS_pos _ _ _) p hpb hpl pv w h ht hpv
  rw [hf] at this
  exact this
def apT (ty : Nat) (vs : Array Value) : Sem Value := Builtin.append_ #[23, 9] ty vs
theorem toApT (ty : Nat) (vs : Array Value) : Builtin.append_ #[23, 9] ty vs = apT ty vs := rfl
/-- A text appended to bytes that were made. -/
theorem run_apT (w : World) (ty g B : Nat) (l : List Nat) (s : ByteArray) (hg : w.heap[g]? = some (.cells (ik .u8 l) 5 (0, 0))) (hB : B ≤ g) (hl : l.length + s.size ≤ 1099511627776) :
    ∃ v w', (apT ty #[.slice (some ⟨g, 0, none⟩) l.length l.length, .string s]).run Try.prog w = .ok v w' ∧ Si .u8 v (l ++ tl s) w' ∧ Below B w w' := by
  have gz : g < w.heap.size := (Array.getElem?_eq_some_iff.1 hg).1
  obtain ⟨i0, hi0, hz0, hz1, hz2⟩ := info_parts info5
  have hown : w.ownsRow g 5 1 (.slice (some ⟨g, 0, none⟩) l.length l.length) l.length (ik .u8 l).toList := ⟨by simp [ik_size], .inr ⟨g, l.length, ik .u8 l, rfl, Nat.le_refl _, hg, Nat.le_refl _, by unfold maxLen; omega, by simp [ik_size], by rw [Nat.mul_one, List.take_of_length_le (by simp [ik])]⟩⟩
  obtain ⟨v, w', hr, ho, hgr, _⟩ := Lib.run_append_own_string (P := Try.prog) (w := w) g 23 9 ty 5 i0 Try.underlying23 Try.underlying9 hi0 hz0 hz1 hz2 _ l.length _ hown s (by unfold maxLen; omega) (by omega) (by omega)
  have e : (ik .u8 l).toList ++ Lib.strCells s = (ik .u8 (l ++ tl s)).toList := by
    simp [ik, Lib.strCells, tl]
  rw [e] at ho
  refine ⟨v, w', hr, own_si ho (by rw [List.length_append, tl_len]), ⟨hgr.os, hgr.tape, hgr.output, hgr.size, fun k hk => hgr.block k (by omega) (fun e => ?_)⟩⟩
  have : g = k := by cases e; rfl
  omega
end Go.Proofs.Ytceaklefdahfkab
