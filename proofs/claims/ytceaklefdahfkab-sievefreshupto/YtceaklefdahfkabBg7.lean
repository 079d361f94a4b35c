/- SieveBegins: the two sieves. -/
import Derived.Test.YtceaklefdahfkabBg1
import Derived.Test.YtceaklefdahfkabBgJ
import Derived.Test.YtceaklefdahfkabNil
namespace Go.Proofs.Ytceaklefdahfkab
open Go.RowKit
/-- The table of no pattern. -/
def TE : Tbl := ftT [] [] 0
theorem te_len : TE.firsts.length = 2 ∧ TE.rows.length = 1 ∧ TE.depths.length = 1 := by
  refine ⟨?_, ?_, ?_⟩ <;> kernel_rfl
set_option maxRecDepth 100000 in
theorem te_chk : ((List.range 256).all fun c => Nat.beq (nx TE c 1 0) 0) = true := by kernel_rfl
theorem te_at (c : Nat) (hc : c < 256) : nx TE c 1 0 = 0 := Nat.eq_of_beq_eq_true (List.all_eq_true.1 te_chk c (List.mem_range.2 hc))
theorem te_gd : Gd TE (fun s => s = 0) := by
  obtain ⟨e1, e2, e3⟩ := te_len
  refine ⟨fun s hs => by omega, fun s hs s' h1 h2 => by omega, fun s hs => by omega, fun s c hs hc => ?_, fun s c hs hc h => ?_, fun s c hs hc h => ?_⟩
  · subst hs; rw [te_at c hc]; omega
  · subst hs; rw [te_at c hc, e1] at h; omega
  · subst hs; exact te_at c hc
theorem te_wk : Wk TE := (ft_facts _ _ _ (by decide) (fun u hu => by cases hu) (by decide) (by decide)).2.1
theorem te_fnd : ∀ (p : List Nat) (i : Nat), Byt p → fnd TE 0 i p = []
  | [], _, _ => rfl
  | c :: p, i, hp => by
    have h1 := te_at c (hp c (by simp))
    have h2 : stp TE 0 c = (0, none) := by
      unfold stp
      rw [h1, te_len.1, if_neg (by decide)]
    rw [fnd, h2]
    exact te_fnd p (i + 1) fun x hx => hp x (by simp [hx])
/-- Both sieves, as they lie, from block B on. -/
def TwoB (B : Nat) (l : List ByteArray) (g h : Nat) (w : World) : Prop :=
  l.length ≤ 4096 ∧ (wdO l).2 = true ∧ (l.map tl).Nodup ∧ B ≤ g ∧ B ≤ h ∧ ∃ ns, NewOk l ns ∧ ∃ gt lv fv, Sve g gt w ∧ TabB B w.heap.size gt (ftT ((wdS l ns).map tl) ns (wdO l).1) w ∧ Rf h lv fv l (fst (l.map tl)) (wdO l).1 w
theorem TwoB.keep {B : Nat} {l : List ByteArray} {g h : Nat} {w w' : World} (t : TwoB B l g h w) (hs : w.heap.size ≤ w'.heap.size) (hb : ∀ j, B ≤ j → j < w.heap.size → w'.heap[j]? = w.heap[j]?) : TwoB B l g h w' := by
  obtain ⟨h1, h2, h3, h4, h5, ns, h6, gt, lv, fv, h7, h8, h9⟩ := t
  exact ⟨h1, h2, h3, h4, h5, ns, h6, gt, lv, fv, (hb g h4 (Array.getElem?_eq_some_iff.1 h7).1).trans h7, (h8.mono hs).keep hs fun j q1 _ q3 => hb j q1 q3, h9.keep fun j q1 q2 => hb j (by omega) q2⟩
theorem wdS_perm {l : List ByteArray} {ns : List Nat} (hs : Srt l ns) : ((wdS l ns).map tl).Perm (l.map tl) := by
  have h1 : (wdS l ns).Perm ((List.range l.length).map (txt l)) := hs.perm.map _
  have h2 : (List.range l.length).map (txt l) = l := by
    apply List.ext_getElem
    · simp
    · intro i q1 q2
      simp [txt, List.getD, q2]
  rw [h2] at h1
  exact h1.map _
theorem wdS_getD {l : List ByteArray} {ns : List Nat} (hs : Srt l ns) (i : Nat) (hi : i < l.length) : ((wdS l ns).map tl)[i]? = some (tl (txt l (ns.getD i 0))) := by
  have hl := wdS_len hs
  have h1 : i < (wdS l ns).length := by omega
  rw [← wdS_get hs i hi, List.getElem?_map, txt_get h1]
  rfl
/-- Sorted, and two neighbours the same: no list of different ones. -/
theorem srt_twin {l : List ByteArray} {ns : List Nat} (hs : Srt l ns) (i : Nat) (hi : i + 1 < l.length) (h : tl (txt l (ns.getD i 0)) = tl (txt l (ns.getD (i + 1) 0))) : ¬ (l.map tl).Nodup := fun hn => by
  have hn2 := (wdS_perm hs).nodup_iff.2 hn
  have a := wdS_getD hs i (by omega)
  have b := wdS_getD hs (i + 1) hi
  rw [h, ← b] at a
  have hl : i < ((wdS l ns).map tl).length := by rw [List.length_map, wdS_len hs]; omega
  have := (List.getElem?_inj hl hn2).1 a
  omega
theorem wdO_pt {l : List ByteArray} (h : (wdO l).2 = true) (hl : l.length ≤ 4096) (hne : l ≠ []) : Pt l (wdO l).1 := by
  obtain ⟨h1, h2⟩ := wdO_all h
  refine ⟨hne, ?_, h1, hl, h2⟩
  cases l with
  | nil => exact absurd rfl hne
  | cons s r =>
    have h3 : (decide (0 < s.size) && (decide (s.size ≤ 64) && allW s.size (s :: r))) = true := h
    simp only [Bool.and_eq_true, decide_eq_true_iff] at h3
    exact h3.1
theorem ok_nodup {l : List ByteArray} (h : (wdO l).2 = true) (hl : l.length ≤ 4096) {ns : List Nat} (hn : NewOk l ns) : (l.map tl).Nodup := by
  by_cases hne : l = []
  · subst hne; simp
  · exact (wdS_perm hn.1).nodup_iff.1 ((wdO_pt h hl hne).wd hn).nodup
theorem newPb_form {l : List ByteArray} {w w' : World} {e : Ending} (h : NewPb l w e w') : ∃ p er, e = .returned (.tuple #[.pointer p, .int .i64 er]) := by
  rcases h with ⟨_, h⟩ | ⟨_, _, h⟩ | ⟨_, _, _, _, _, h⟩ | ⟨_, _, _, _, _, _, h, _⟩
  · exact ⟨_, _, h⟩
  · exact ⟨_, _, h⟩
  · exact ⟨_, _, h⟩
  · exact ⟨_, _, h⟩
/-- Both New hand out alike. -/
theorem nw_pair {l : List ByteArray} {w1 w2 w3 : World} {p : Option Addr} {er : Int} {e2 : Ending} (h : NewPb l w1 (.returned (.tuple #[.pointer p, .int .i64 er])) w2) (hs : w1.heap.size ≤ w2.heap.size) (hR : RNew l w2 e2 w3) (hb : Below w2.heap.size w2 w3) :
    ∃ q, e2 = .returned (.tuple #[.pointer q, .int .i64 er]) ∧ ((p = none ∧ q = none) ∨ ∃ g h, p = some ⟨g, 0, none⟩ ∧ q = some ⟨h, 0, none⟩ ∧ TwoB w1.heap.size l g h w3) := by
  rcases h with ⟨a, h⟩ | ⟨a, b, h⟩ | ⟨a, b, ns, c, ⟨i, hi, ht⟩, h⟩ | ⟨a, b, ns, c, g, gt, h, hS, hg, hT⟩
  · simp at h
    obtain ⟨rfl, rfl⟩ := h
    rcases hR with ⟨_, r⟩ | ⟨a', _⟩ | ⟨a', _⟩ | ⟨a', _⟩
    · exact ⟨_, r, .inl ⟨rfl, rfl⟩⟩
    · omega
    · omega
    · omega
  · simp at h
    obtain ⟨rfl, rfl⟩ := h
    rcases hR with ⟨a', _⟩ | ⟨_, _, r⟩ | ⟨_, b', _⟩ | ⟨_, b', _⟩
    · omega
    · exact ⟨_, r, .inl ⟨rfl, rfl⟩⟩
    · rw [b] at b'; cases b'
    · rw [b] at b'; cases b'
  · simp at h
    obtain ⟨rfl, rfl⟩ := h
    rcases hR with ⟨a', _⟩ | ⟨_, b', _⟩ | ⟨_, _, _, r⟩ | ⟨_, _, n, _⟩
    · omega
    · rw [b] at b'; cases b'
    · exact ⟨_, r, .inl ⟨rfl, rfl⟩⟩
    · exact absurd n (srt_twin c i hi ht)
  · simp at h
    obtain ⟨rfl, rfl⟩ := h
    rcases hR with ⟨a', _⟩ | ⟨_, b', _⟩ | ⟨_, _, n, _⟩ | ⟨_, _, n, h, r, hh, lv, fv, hRf⟩
    · omega
    · rw [b] at b'; cases b'
    · exact absurd (ok_nodup b a c) n
    · exact ⟨_, r, .inr ⟨g, h, rfl, rfl, a, b, n, hg, by omega, ns, c, gt, lv, fv, (hb.block g (Array.getElem?_eq_some_iff.1 hS).1).trans hS, (hT.mono hb.size).keep hb.size fun j _ _ hj => hb.block j hj, hRf⟩⟩
theorem hl_nil (w : World) : Hl (.slice none 0 0) [] w := .inl ⟨rfl, rfl⟩
end Go.Proofs.Ytceaklefdahfkab
