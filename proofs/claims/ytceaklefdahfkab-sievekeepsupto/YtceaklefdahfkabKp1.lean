/- SieveKeeps: the walk's parts. -/
import Derived.Test.YtceaklefdahfkabMk2
import Derived.Test.YtceaklefdahfkabBk1
import Derived.Test.YtceaklefdahfkabApa
import Derived.Deep.RegionWith
import Derived.Deep.DrawnRows
namespace Go.Proofs.Ytceaklefdahfkab
open Go.RowKit
/-- The replacements: each cut, or filled up with zeros. -/
def rkL (l4 : List ByteArray) (m i : Nat) : List Nat := if i < l4.length then ovr (List.replicate m 0) ((tl (txt l4 i)).take (min (txt l4 i).size m)) 0 else List.replicate m 0
theorem rkL_len (l4 : List ByteArray) (m i : Nat) : (rkL l4 m i).length = m := by
  unfold rkL
  split
  · exact wrd0_len _ _
  · simp
theorem rkL_byt (l4 : List ByteArray) (m i : Nat) : Byt (rkL l4 m i) := by
  have h0 : Byt (List.replicate m 0) := fun x hx => by rw [List.eq_of_mem_replicate hx]; omega
  unfold rkL
  split
  · exact ovr_byt h0 (fun x hx => tl_byt _ x (List.mem_of_mem_take hx)) 0
  · exact h0
def rks (l4 : List ByteArray) (m k : Nat) : List ByteArray := (List.range k).map fun j => bst (rkL l4 m j)
theorem rks_len (l4 : List ByteArray) (m k : Nat) : (rks l4 m k).length = k := by simp [rks]
theorem rks_sz (l4 : List ByteArray) (m k : Nat) : ∀ s ∈ rks l4 m k, s.size = m := fun s hs => by
  obtain ⟨j, _, rfl⟩ := List.mem_map.1 hs
  rw [bst_size, rkL_len]
theorem rks_all (l4 : List ByteArray) (m k : Nat) : allW m (rks l4 m k) = true := by
  unfold allW
  rw [List.all_eq_true]
  intro s hs
  exact decide_eq_true (rks_sz l4 m k s hs)
theorem rks_row (l4 : List ByteArray) (m n i : Nat) (hi : i < n) : (rks l4 m i ++ List.replicate (n - i) (⟨#[]⟩ : ByteArray)).set i (bst (rkL l4 m i)) = rks l4 m (i + 1) ++ List.replicate (n - (i + 1)) (⟨#[]⟩ : ByteArray) := by
  have h1 : (rks l4 m i).length = i := rks_len l4 m i
  have h2 : List.replicate (n - i) (⟨#[]⟩ : ByteArray) = ⟨#[]⟩ :: List.replicate (n - (i + 1)) ⟨#[]⟩ := by rw [← List.replicate_succ]; congr 1; omega
  rw [List.set_append_right _ _ (by omega), h1, Nat.sub_self, h2, List.set_cons_zero]
  simp [rks, List.range_succ]
theorem hts_word (ws : List ByteArray) (m : Nat) (D : List Nat) (x : Int × Int) (h : Sth (ws.map tl) m D x) : ∃ i k : Nat, x = ((i : Int), (k : Int)) ∧ i + m ≤ D.length ∧ k < ws.length ∧ txt ws k = bst ((D.drop i).take m) := by
  obtain ⟨i, k, h1, h2, h3, h4⟩ := h
  have hk3 : k < ws.length := by simpa using h3
  refine ⟨i, k, h1, h2, hk3, ?_⟩
  rw [← h4]
  have e : (ws.map tl).getD k [] = tl (txt ws k) := by
    rw [txt_eq hk3]; simp [List.getD, hk3]
  rw [e]
  apply tl_inj
  rw [tl_bst _ (tl_byt _)]
/-- Zeros copied over bytes. -/
theorem run_cpZ (W : World) (ty g o N b m : Nat) (l : List Nat) (hrow : W.heap[g]? = some (.cells (ik .u8 l) 5 (0, 0))) (hb : W.heap[b]? = some (.cells (ik .u8 (List.replicate m 0)) 5 (0, 0))) (hN : l.length = N) (hfit : o + m ≤ N) :
    (cpB ty #[.slice (some ⟨g, o, none⟩) (N - o) (N - o), .slice (some ⟨b, 0, none⟩) m m]).run Try.prog W = .ok (goInt m) (W.setRow g (ik .u8 (ovr l (List.replicate m 0) o))) := by
  have hlen : ((List.replicate m 0).map fun (x : Nat) => Value.int .u8 (x : Int)).length = m := by simp
  have hc := run_copy_row (P := Try.prog) W 23 23 ty 5 g o (N - o) (N - o) ⟨b, 0, none⟩ m m _ 5 ((List.replicate m 0).map fun (x : Nat) => Value.int .u8 (x : Int)) Try.underlying23 size5 hrow (by rw [hlen]; show m = Nat.min m (N - o); have : Nat.min m (N - o) = min m (N - o) := rfl; omega) (fun j v hj => by
    have hj2 : j < m := by have := (List.getElem?_eq_some_iff.1 hj).1; rwa [hlen] at this
    rw [Go.WideShapes.add_plain, Nat.zero_add, cell_of_row W _ _ _ _ _ hb, ik_get _ _ _ (by simpa using hj2)]
    simp [hj2] at hj
    rw [← hj]
    simp [List.getD, hj2]) (by rw [hlen, ik_size]; omega) (fun v hv => by obtain ⟨x, _, rfl⟩ := List.mem_map.1 hv; rfl)
  rw [hlen] at hc
  have h2 := ik_ovr l (List.replicate m 0) o
  rw [List.length_replicate] at h2
  rw [h2] at hc
  exact hc
/-- With the patterns themselves it is the bytes. -/
theorem same_id (ws : List ByteArray) (m : Nat) (hw : ∀ s ∈ ws, s.size = m) (D : List Nat) : puts ws 0 D (hts (ws.map tl) m D) = D := puts_id hw D _ (hts_sth _ _ _) D rfl (fun _ _ => rfl)
end Go.Proofs.Ytceaklefdahfkab
