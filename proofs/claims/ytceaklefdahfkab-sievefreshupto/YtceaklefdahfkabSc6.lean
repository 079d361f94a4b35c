/- SieveScans: a piece more, both. -/
import Derived.Test.YtceaklefdahfkabScJ
import Derived.Test.YtceaklefdahfkabBg8
namespace Go.Proofs.Ytceaklefdahfkab
open Go.RowKit
/-- The hits of a further piece. -/
def hit2 (L : List (List Nat)) (m : Nat) (y p : List Nat) : List (Int × Int) := (hts L m (lastN m y ++ p)).map (shf ((y.length - (lastN m y).length : Nat) : Int))
/-- What is held behind some bytes. -/
def hld2 (L : List (List Nat)) (m : Nat) (y : List Nat) : Nat := hld L (lastN m y) (min (m - 1) y.length)
/-- The words as New orders them, and their numbers. -/
theorem Pt.nums {l : List ByteArray} {m : Nat} (h : Pt l m) {ns : List Nat} (hn : NewOk l ns) : (∀ x, x ∈ (wdS l ns).map tl ↔ x ∈ l.map tl) ∧ ∀ x, x ∈ (wdS l ns).map tl → ns.getD (((wdS l ns).map tl).idxOf x) 0 = (l.map tl).idxOf x := by
  have hw := h.wd hn
  obtain ⟨hs, _⟩ := hn
  have hl := wdS_len hs
  have hll : ((wdS l ns).map tl).length = l.length := by rw [List.length_map]; exact hl
  have hperm := wdS_perm hs
  have hnd : (l.map tl).Nodup := hperm.nodup_iff.1 hw.nodup
  refine ⟨fun x => hperm.mem_iff, fun x hx => ?_⟩
  have hi : ((wdS l ns).map tl).idxOf x < ((wdS l ns).map tl).length := List.idxOf_lt_length_of_mem hx
  have hx2 : ((wdS l ns).map tl)[((wdS l ns).map tl).idxOf x] = x := List.getElem_idxOf hi
  have hq : ((wdS l ns).map tl).idxOf x < l.length := by omega
  have hk := hs.lt _ hq
  have e : ((wdS l ns).map tl)[((wdS l ns).map tl).idxOf x] = (l.map tl)[ns.getD (((wdS l ns).map tl).idxOf x) 0]'(by simpa using hk) := by
    have e1 := wdS_get hs _ hq
    have e2 : txt (wdS l ns) (((wdS l ns).map tl).idxOf x) = (wdS l ns)[((wdS l ns).map tl).idxOf x]'(by omega) := txt_eq _
    have e3 : txt l (ns.getD (((wdS l ns).map tl).idxOf x) 0) = l[ns.getD (((wdS l ns).map tl).idxOf x) 0]'hk := txt_eq hk
    rw [List.getElem_map, List.getElem_map, ← e2, ← e3, e1]
  rw [hx2] at e
  have := hnd.idxOf_getElem (ns.getD (((wdS l ns).map tl).idxOf x) 0) (by simpa using hk)
  rw [← e] at this
  exact this.symm
/-- The code's Feed. -/
theorem feedC_any (l : List ByteArray) (m : Nat) (hp : Pt l m) (ns : List Nat) (hn : NewOk l ns) (gs gt s h : Nat) (y p : List Nat) (hy : y.length ≤ 1125899906842624) (hpb : Byt p) (hpl : p.length ≤ 1073741824) (pv : Value) (w : World) (hs : Scn gs gt s y.length h w) (hat : At ((wdS l ns).map tl) m s y) (ht : TabK gs gt (ftT ((wdS l ns).map tl) ns m) w) (hpv : Si .u8 pv p w) :
    Calls Try.prog 21 #[.pointer (some ⟨gs, 0, none⟩), pv] w fun e w' => ∃ v s', e = .returned v ∧ w'.ownsRow w.heap.size 39 2 v (hit2 (l.map tl) m y p).length (hc (hit2 (l.map tl) m y p)) ∧ Scn gs gt s' (y ++ p).length (hld2 (l.map tl) m (y ++ p)) w' ∧ At ((wdS l ns).map tl) m s' (y ++ p) ∧ But gs w w' := by
  have hw := hp.wd hn
  have hln := hp.ln
  obtain ⟨n1, n2⟩ := hp.nums hn
  have hl := wdS_len hn.1
  have hll : ((wdS l ns).map tl).length = l.length := by rw [List.length_map]; exact hl
  have hb : ∀ u ∈ (wdS l ns).map tl, Byt u := fun u hu => by obtain ⟨s, _, rfl⟩ := List.mem_map.1 hu; exact tl_byt s
  have hv : ns.length = ((wdS l ns).map tl).length := by rw [hn.1.len, hll]
  have hf := hw.fnd ns (by omega) hb hv hp.m1 p y s hpb hat.1 hat.2
  rw [spc_last hw (l.map tl) n1 n2 y p] at hf
  have hA := hw.rnA ns (by omega) hb hv hp.m1 p y s hpb hat
  have hD := hw.dep ns (by omega) hb hv hp.m1 _ _ hA
  rw [hw.hld (l.map tl) n1 (y ++ p)] at hD
  have := feed_any gs gt _ (hw.wk ns (by omega) hb hv hp.m1) _ (hw.gd ns (by omega) hb hv hp.m1) s y.length h hat.1 (by omega) p hpb (by omega) pv w hs ht hpv
  rw [hf, hD, ← List.length_append] at this
  exact this.mono fun e w' ⟨v, q1, q2, q3, q4, q5, q6, q7, q8⟩ => ⟨v, _, q1, q2, q3, hA, ⟨q4, q5, q6, q7, q8⟩⟩
theorem lastN_app (m : Nat) (y p : List Nat) : lastN m (lastN m y ++ p) = lastN m (y ++ p) := by
  have hl := lastN_len m y
  have e : lastN m y ++ p = (y ++ p).drop (y.length - min (m - 1) y.length) := by
    rw [List.drop_append_of_le_length (by omega), lastN]
  have hle : (lastN m y ++ p).length = min (m - 1) y.length + p.length := by rw [List.length_append, hl]
  have h1 : lastN m (lastN m y ++ p) = (lastN m y ++ p).drop ((lastN m y ++ p).length - min (m - 1) (lastN m y ++ p).length) := rfl
  rw [h1, hle, e, List.drop_drop, lastN, List.length_append]
  congr 1
  omega
/-- The document's Feed. -/
theorem feedD_any (l : List ByteArray) (m : Nat) (hp : Pt l m) (hnd : (l.map tl).Nodup) (gs g : Nat) (lv : Value) (fv : Nat → Value) (y p : List Nat) (hyb : Byt y) (hpb : Byt p) (hy : y.length ≤ 1125899906842624) (hpl : p.length ≤ 16777216) (lvv pv : Value) (w : World) (hne : g ≠ gs) (hs : Rsc gs g lvv y.length w) (ha : Si .u8 lvv (lastN m y) w) (hpv : Si .u8 pv p w) (hR : Rf g lv fv l (fst (l.map tl)) m w) :
    Calls Try.prog 30 #[.pointer (some ⟨gs, 0, none⟩), pv] w fun e w' => ∃ v lvv', e = .returned v ∧ w'.ownsRow w.heap.size 39 2 v (hit2 (l.map tl) m y p).length (hc (hit2 (l.map tl) m y p)) ∧
      Rsc gs g lvv' (y ++ p).length w' ∧ Si .u8 lvv' (lastN m (y ++ p)) w' ∧ (∀ k, lvv'.ownBlock = some k → w.heap.size ≤ k) ∧ But gs w w' := by
  have hl := lastN_len m y
  have hm1 := hp.m1
  have hb2 : Byt (lastN m y ++ p) := fun x hx => by
    rcases List.mem_append.1 hx with h | h
    · exact hyb x (List.mem_of_mem_drop h)
    · exact hpb x h
  have hlen : (lastN m y ++ p).length ≤ 1073741824 := by rw [List.length_append, hl]; omega
  have := feedR_any gs g m y.length (hts (l.map tl) m) (lastN m y) p lvv pv w hne hm1 hy (by omega) (by omega) hpl hs ha hpv hR.gz ((cell_of_row w g _ _ _ _ hR.row).trans (rfC_w _ _ _))
    (fun W v hb hv => scanR_own g lv fv l m hp.m0 hm1 hp.ln hnd _ hb2 hlen v W (hR.below hb) hv)
    (fun x hx => by
      unfold hts at hx
      obtain ⟨i, hi, hx⟩ := List.mem_flatMap.1 hx
      rw [List.mem_range] at hi
      unfold htA at hx
      by_cases h : ((lastN m y ++ p).drop i).take m ∈ l.map tl
      · rw [if_pos h, List.mem_singleton] at hx
        subst hx
        exact ⟨by simp, by simp only; omega⟩
      · rw [if_neg h] at hx; cases hx)
  rw [lastN_app] at this
  have e2 : (hit2 (l.map tl) m y p).length = (hts (l.map tl) m (lastN m y ++ p)).length := by rw [hit2, List.length_map]
  rw [e2, List.length_append]
  exact this
theorem feedR_nil (v : Value) (w : World) : Calls Try.prog 30 #[.pointer none, v] w fun e w' => e = .returned (.slice none 0 0) ∧ w' = w := by
  go_enter Try.func30, Try.ntmps30
  go_wp2
  go_ret
  exact ⟨rfl, rfl⟩
attribute [local go_sem ↓] toApB toSlB
set_option maxRecDepth 100000 in
theorem roomy_own (d : List Nat) (hd : d.length ≤ 1073741824) (v : Value) (w : World) (hv : Si .u8 v d w) :
    Calls Try.prog 29 #[v] w fun e w' => ∃ u, e = .returned u ∧ Si .u8 u (d ++ [90, 165]) w' ∧ Below w.heap.size w w' ∧ (∀ k, u.ownBlock = some k → w.heap.size ≤ k) := by
  have CC : Hid _ := copied_any d hd v w hv
  have ADD : Hid (∀ W, W.heap[w.heap.size]? = some (.cells (ik .u8 d) 5 (0, 0)) → Below w.heap.size w W → ∃ u W', (apB 23 #[.slice (some ⟨w.heap.size, 0, none⟩) d.length d.length, .slice (some ⟨W.heap.size, 0, none⟩) 2 2]).run Try.prog (W.alloc (.cells #[.int .u8 90, .int .u8 165] 5)) = .ok u W' ∧ Hid (Si .u8 u (d ++ [90, 165]) W' ∧ Below w.heap.size w W' ∧ (∀ k, u.ownBlock = some k → w.heap.size ≤ k))) := fun W hr hb => by
    obtain ⟨u, W', r, hs, hb2, hk2⟩ := run_apM W 23 w.heap.size d hr hd
    exact ⟨u, W', r, hs, hb.trans hb2, hk2⟩
  clear hv
  go_enter Try.func29, Try.ntmps29
  go_wp2_with fail
  refine Calls.mono CC.out ?_
  rintro e W ⟨rfl, hr, hb, hz⟩
  obtain ⟨u, W', r, HE⟩ := ADD.out W hr hb
  clear hr hb hz
  go_wp2
  go_ret
  exact ⟨u, rfl, HE.out⟩
end Go.Proofs.Ytceaklefdahfkab
