/- SieveNil: the walk. -/
import Derived.Test.YtceaklefdahfkabSv9
import Derived.Test.YtceaklefdahfkabSv20
import Derived.Lib.SlBytesConst
namespace Go.Proofs.Ytceaklefdahfkab
open Go.RowKit
theorem ft_facts (ws : List (List Nat)) (vs : List Nat) (m : Nat) (hw : ws.length ≤ 4096) (hb : ∀ u ∈ ws, Byt u) (hv : vs.length ≤ 4096) (hm : m ≤ 64) :
    Bk (ftT ws vs m) ∧ Wk (ftT ws vs m) ∧ (ftT ws vs m).rows.length = min ((mkT ws vs m).firsts.length - 1) 64 := by
  have h2 := mkT_firsts ws vs m
  obtain ⟨h3, h4, h5⟩ := lbS_ok (mkT ws vs m) (mkT_bk ws vs m) (mkT_bd ws vs m hw hv hm) rfl ((mkT ws vs m).firsts.length - 1) (by omega)
  obtain ⟨e1, e2, e3, e4, e5⟩ := lbS_same (mkT ws vs m) ((mkT ws vs m).firsts.length - 1)
  have hy := mkT_byt ws vs m hb hm
  refine ⟨h3, ⟨h4, ?_, ?_, ?_, ?_, ?_, ?_⟩, h5⟩
  · show Byt (lbS _ _).letters; rw [e2]; exact hy.1
  · show 0 < (lbS _ _).rows.length; rw [h5]; omega
  · show 0 < (lbS _ _).letters.length; rw [e2]; exact mkT_letters ws vs m
  · show 1 ≤ (lbS _ _).firsts.length; rw [e1]; omega
  · show (lbS _ _).width ≤ 64; rw [e3]; exact hm
  · show Byt (lbS _ _).depths; rw [e4]; exact hy.2
/-- The law's own table. -/
def TN : Tbl := ftT [[97, 98], [98, 99]] [0, 1] 2
theorem tn_len : TN.firsts.length = 4 ∧ TN.depths.length = 5 ∧ TN.values.length = 2 ∧ TN.backs.length = 5 ∧ TN.width = 2 ∧ TN.rows.length = 3 := by
  refine ⟨?_, ?_, ?_, ?_, ?_, ?_⟩ <;> kernel_rfl
def chk (t : Tbl) : Bool := (List.range 3).all fun s => (List.range 256).all fun c =>
  Nat.ble (nx t c (s + 1) s) 4 && Nat.ble (t.backs.getD (nx t c (s + 1) s) 0) 2
set_option maxRecDepth 100000 in
theorem tn_chk : chk TN = true := by kernel_rfl
set_option maxRecDepth 100000 in
theorem tn_fnd : (fnd TN 0 0 [97, 98, 99, 97, 98]).length = 3 := by kernel_rfl
theorem tn_at (s c : Nat) (hs : s < 3) (hc : c < 256) : nx TN c (s + 1) s ≤ 4 ∧ TN.backs.getD (nx TN c (s + 1) s) 0 ≤ 2 := by
  have h := tn_chk
  unfold chk at h
  have h2 := List.all_eq_true.1 (List.all_eq_true.1 h s (List.mem_range.2 hs)) c (List.mem_range.2 hc)
  rw [Bool.and_eq_true] at h2
  exact ⟨Nat.le_of_ble_eq_true h2.1, Nat.le_of_ble_eq_true h2.2⟩
theorem tn_gd : Gd TN (fun s => s < 3) := by
  obtain ⟨e1, e2, e3, e4, _, e6⟩ := tn_len
  refine ⟨fun s hs => by omega, fun s hs s' h1 h2 => by rw [e6] at h1; omega, fun s hs => by rw [e2]; omega, fun s c hs hc => by have := (tn_at s c hs hc).1; omega, fun s c hs hc h => ?_, fun s c hs hc h => ?_⟩
  · have := tn_at s c hs hc
    rw [e1, e3, e4]
    omega
  · rw [e1] at h
    omega
theorem tn_wk : Wk TN := (ft_facts _ _ _ (by decide) (fun u hu => by simp only [List.mem_cons, List.not_mem_nil, or_false] at hu; rcases hu with rfl | rfl <;> intro x hx <;> simp at hx <;> omega) (by decide) (by decide)).2.1
/-- The law's own patterns. -/
def lN : List ByteArray := [⟨#[97, 98]⟩, ⟨#[98, 99]⟩]
theorem srt_N {ns : List Nat} (h : Srt lN ns) : ns = [0, 1] := by
  have hp := h.perm
  have e : List.range lN.length = [0, 1] := rfl
  rw [e] at hp
  have hl := hp.length_eq
  match ns, hl with
  | [a, b], _ =>
    have ha : a ∈ [0, 1] := hp.mem_iff.1 (by simp)
    have hb : b ∈ [0, 1] := hp.mem_iff.1 (by simp)
    have hn : [a, b].Nodup := hp.nodup_iff.2 (by decide)
    have hu := h.up 0 1 (by decide) (by decide)
    simp only [List.mem_cons, List.not_mem_nil, or_false] at ha hb
    rcases ha with rfl | rfl <;> rcases hb with rfl | rfl
    · simp at hn
    · rfl
    · exact absurd (by decide) hu
    · simp at hn
theorem new_N (BT : ∀ (v : Value) (w : World), lN.length ≤ 4096 → St v lN w → Calls Try.prog 46 #[v] w (ByT lN w)) (w : World) :
    Calls Try.prog 10 #[.slice (some ⟨w.heap.size, 0, none⟩) 2 2] (w.alloc (.cells #[.string ⟨#[97, 98]⟩, .string ⟨#[98, 99]⟩] 9)) fun e w' => ∃ g gt, e = .returned (.tuple #[.pointer (some ⟨g, 0, none⟩), .int .i64 0]) ∧ Sve g gt w' ∧ TabK w'.heap.size gt TN w' ∧ Below w.heap.size w w' := by
  obtain ⟨W, hW⟩ : ∃ W, W = w.alloc (.cells #[.string ⟨#[97, 98]⟩, .string ⟨#[98, 99]⟩] 9) := ⟨_, rfl⟩
  have B0 : Below w.heap.size w W := by rw [hW]; exact (Below.refl _ w).alloc (Nat.le_refl _) _
  have R0 : W.heap[w.heap.size]? = some (.cells (sk lN) 9 (0, 0)) := by rw [hW]; exact heap_alloc_new _ _
  rw [← hW]
  have hst : St (.slice (some ⟨w.heap.size, 0, none⟩) 2 2) lN W := .inr ⟨w.heap.size, 0, 2, rfl, by decide, by unfold maxLen; omega, (Array.getElem?_eq_some_iff.1 R0).1, fun j s hj => by
    have hj2 : j < lN.length := (List.getElem?_eq_some_iff.1 hj).1
    rw [Nat.zero_add, cell_of_row W _ _ _ _ _ R0, sk_get _ _ hj2, ← Option.some.inj ((txt_get hj2).symm.trans hj)]⟩
  refine Calls.mono (new_any lN (by decide) (fun s hs => by simp only [lN, List.mem_cons, List.not_mem_nil, or_false] at hs; rcases hs with rfl | rfl <;> decide) BT _ W hst) ?_
  rintro e w' ⟨hP, hB⟩
  have hw2 : (wdO lN).2 = true := by kernel_rfl
  rcases hP with ⟨h, _⟩ | ⟨_, h, _⟩ | ⟨_, _, ns, hs, ⟨i, hi, ht⟩, _⟩ | ⟨_, _, ns, ⟨hs, _⟩, g, gt, he, h1, h2⟩
  · exact absurd h (by decide)
  · rw [hw2] at h; cases h
  · have := srt_N hs
    subst this
    have : i = 0 := by have : i + 1 < 2 := hi; omega
    subst this
    exact absurd ht (by decide)
  · have := srt_N hs
    subst this
    exact ⟨g, gt, he, h1, h2, B0.trans (hB.mono B0.size)⟩
end Go.Proofs.Ytceaklefdahfkab
