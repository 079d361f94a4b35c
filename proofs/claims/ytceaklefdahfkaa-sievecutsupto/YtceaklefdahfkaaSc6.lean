/- The sieve in pieces: what a further piece brings. -/
import Derived.Test.YtceaklefdahfkaaSc5
import Derived.Test.YtceaklefdahfkaaSc1
import Derived.Test.YtceaklefdahfkaaRw7
namespace Go.Proofs.Ytceaklefdahfkaa
open Go.RowKit
/-- A hit moved. -/
def shf (n : Int) (x : Int × Int) : Int × Int := (x.1 + n, x.2)
/-- The hits of a further piece. -/
def hit2 (L : List (List Nat)) (m : Nat) (y p : List Nat) : List (Int × Int) := (hts L m (lastN m y ++ p)).map (shf ((y.length - (lastN m y).length : Nat) : Int))
/-- What is held behind some bytes. -/
def hld2 (L : List (List Nat)) (m : Nat) (y : List Nat) : Nat := hld L (lastN m y) (min (m - 1) y.length)
theorem wdS_permS {l : List ByteArray} {ns : List Nat} (hs : Srt l ns) : ((wdS l ns).map tl).Perm (l.map tl) := by
  have h1 : (wdS l ns).Perm ((List.range l.length).map (txt l)) := hs.perm.map _
  have h2 : (List.range l.length).map (txt l) = l := by
    apply List.ext_getElem
    · simp
    · intro i q1 q2
      simp [txt, List.getD, q2]
  rw [h2] at h1
  exact h1.map _
/-- The words as New orders them, and their numbers. -/
theorem Pt.nums {l : List ByteArray} {m : Nat} (h : Pt l m) {ns : List Nat} (hn : NewOk l ns) : (∀ x, x ∈ (wdS l ns).map tl ↔ x ∈ l.map tl) ∧ ∀ x, x ∈ (wdS l ns).map tl → ns.getD (((wdS l ns).map tl).idxOf x) 0 = (l.map tl).idxOf x := by
  have hw := h.wd hn
  obtain ⟨hs, _⟩ := hn
  have hl := wdS_len hs
  have hll : ((wdS l ns).map tl).length = l.length := by rw [List.length_map]; exact hl
  have hperm := wdS_permS hs
  have hnd : (l.map tl).Nodup := hperm.nodup_iff.1 hw.nodup
  refine ⟨fun x => hperm.mem_iff, fun x hx => ?_⟩
  have hi : ((wdS l ns).map tl).idxOf x < ((wdS l ns).map tl).length := List.idxOf_lt_length_of_mem hx
  have hx2 : ((wdS l ns).map tl)[((wdS l ns).map tl).idxOf x] = x := List.getElem_idxOf hi
  have hq : ((wdS l ns).map tl).idxOf x < l.length := by omega
  have hk := hs.lt _ hq
  have e : ((wdS l ns).map tl)[((wdS l ns).map tl).idxOf x] = (l.map tl)[ns.getD (((wdS l ns).map tl).idxOf x) 0]'(by simpa using hk) := by
    have e1 := wdS_get hs _ hq
    have e2 : txt (wdS l ns) (((wdS l ns).map tl).idxOf x) = (wdS l ns)[((wdS l ns).map tl).idxOf x]'(by omega) := txt_eq _
    have e3 : txt l (ns.getD (((wdS l ns).map tl).idxOf x) 0) = l[ns.getD (((wdS l ns).map tl).idxOf x) 0]'hk := txt_eq hk
    rw [List.getElem_map, List.getElem_map, ← e2, ← e3, e1]
  rw [hx2] at e
  have := hnd.idxOf_getElem (ns.getD (((wdS l ns).map tl).idxOf x) 0) (by simpa using hk)
  rw [← e] at this
  exact this.symm
/-- The code's Feed. -/
theorem feedC_gen (X : List Value) (ty : Nat) (l : List ByteArray) (m : Nat) (hp : Pt l m) (ns : List Nat) (hn : NewOk l ns) (gs gt s h : Nat) (y p : List Nat) (hy : y.length ≤ 1125899906842624) (hpb : Byt p) (hpl : p.length ≤ 1073741824) (pv : Value) (w : World) (hs : Scg X ty gs gt s y.length h w) (hat : At ((wdS l ns).map tl) m s y) (ht : TabK gs gt (ftT ((wdS l ns).map tl) ns m) w) (hpv : Si .u8 pv p w) :
    Calls Try.prog 30 #[.pointer (some ⟨gs, 0, none⟩), pv] w fun e w' => ∃ v s', e = .returned v ∧ w'.ownsRow w.heap.size 40 2 v (hit2 (l.map tl) m y p).length (hc (hit2 (l.map tl) m y p)) ∧ Scg X ty gs gt s' (y ++ p).length (hld2 (l.map tl) m (y ++ p)) w' ∧ At ((wdS l ns).map tl) m s' (y ++ p) ∧ But gs w w' := by
  have hw := hp.wd hn
  have hln := hp.ln
  obtain ⟨n1, n2⟩ := hp.nums hn
  have hl := wdS_len hn.1
  have hll : ((wdS l ns).map tl).length = l.length := by rw [List.length_map]; exact hl
  have hb : ∀ u ∈ (wdS l ns).map tl, Byt u := fun u hu => by obtain ⟨s, _, rfl⟩ := List.mem_map.1 hu; exact tl_byt s
  have hv : ns.length = ((wdS l ns).map tl).length := by rw [hn.1.len, hll]
  have hf := hw.fnd ns (by omega) hb hv hp.m1 p y s hpb hat.1 hat.2
  rw [spc_last hw (l.map tl) n1 n2 y p] at hf
  have hA := hw.rnA ns (by omega) hb hv hp.m1 p y s hpb hat
  have hD := hw.dep ns (by omega) hb hv hp.m1 _ _ hA
  rw [hw.hld (l.map tl) n1 (y ++ p)] at hD
  have := feed_gen X ty gs gt _ (hw.wk ns (by omega) hb hv hp.m1) _ (hw.gd ns (by omega) hb hv hp.m1) s y.length h hat.1 (by omega) p hpb (by omega) pv w hs ht hpv
  rw [hf, hD, ← List.length_append] at this
  exact this.mono fun e w' ⟨v, q1, q2, q3, q4, q5, q6, q7, q8⟩ => ⟨v, _, q1, q2, q3, hA, ⟨q4, q5, q6, q7, q8⟩⟩
theorem lastN_app (m : Nat) (y p : List Nat) : lastN m (lastN m y ++ p) = lastN m (y ++ p) := by
  have hl := lastN_len m y
  have e : lastN m y ++ p = (y ++ p).drop (y.length - min (m - 1) y.length) := by
    rw [List.drop_append_of_le_length (by omega), lastN]
  have hle : (lastN m y ++ p).length = min (m - 1) y.length + p.length := by rw [List.length_append, hl]
  have h1 : lastN m (lastN m y ++ p) = (lastN m y ++ p).drop ((lastN m y ++ p).length - min (m - 1) (lastN m y ++ p).length) := rfl
  rw [h1, hle, e, List.drop_drop, lastN, List.length_append]
  congr 1
  omega
end Go.Proofs.Ytceaklefdahfkaa
