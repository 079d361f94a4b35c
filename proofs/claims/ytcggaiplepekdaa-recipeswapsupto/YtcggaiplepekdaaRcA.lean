/- Recipes: lists of rows as they lie. -/
import Derived.Test.YtcggaiplepekdaaChecked
import Derived.WalkKit
import Derived.RowKitTokens
import Derived.Deep.MidRow
import Derived.Maps.AppendAt
import Derived.Laws.OwnMore
import Derived.BigRegion
import Derived.BigQuiet
import Derived.Laws.StructEq
namespace Go.Proofs.Ytcggaiplepekdaa
open Go.RowKit
def flat (l : List (Array Value)) : List Value := l.flatMap (·.toList)
theorem flat_app (a b : List (Array Value)) : flat (a ++ b) = flat a ++ flat b := by simp [flat]
theorem flat_len {sz : Nat} : ∀ {ls : List (Array Value)}, (∀ c ∈ ls, c.size = sz) → (flat ls).length = ls.length * sz
  | [], _ => by simp [flat]
  | a :: l, h => by
    have h1 := flat_len (ls := l) (fun c hc => h c (List.mem_cons_of_mem _ hc))
    have h2 := h a List.mem_cons_self
    show (a.toList ++ flat l).length = _
    rw [List.length_append, h1, Array.length_toList, h2, List.length_cons, Nat.add_mul]
    omega
theorem flat_at {sz : Nat} : ∀ {ls : List (Array Value)}, (∀ c ∈ ls, c.size = sz) → ∀ (i : Nat) c, ls[i]? = some c → ∀ (j : Nat) v, c.toList[j]? = some v → (flat ls)[i * sz + j]? = some v
  | [], _, i, c, h, _, _, _ => by simp at h
  | a :: l, _, 0, c, h, j, v, hv => by
    obtain rfl : a = c := by simpa using h
    have hj : j < a.toList.length := (List.getElem?_eq_some_iff.1 hv).1
    show (a.toList ++ flat l)[0 * sz + j]? = _
    rw [Nat.zero_mul, Nat.zero_add, List.getElem?_append_left hj]
    exact hv
  | a :: l, hz, i + 1, c, h, j, v, hv => by
    have := flat_at (sz := sz) (ls := l) (fun c hc => hz c (List.mem_cons_of_mem _ hc)) i c (by simpa using h) j v hv
    have ha : a.toList.length = sz := by rw [Array.length_toList]; exact hz a List.mem_cons_self
    show (a.toList ++ flat l)[(i + 1) * sz + j]? = _
    rw [List.getElem?_append_right (by rw [ha, Nat.add_mul]; omega), ha, show (i + 1) * sz + j - sz = i * sz + j by rw [Nat.add_mul]; omega]
    exact this
theorem flat_inv {sz : Nat} (h0 : 0 < sz) : ∀ {ls : List (Array Value)}, (∀ c ∈ ls, c.size = sz) → ∀ (k : Nat) v, (flat ls)[k]? = some v → ∃ c, ls[k / sz]? = some c ∧ c.toList[k % sz]? = some v
  | [], _, k, v, h => by simp [flat] at h
  | a :: l, hz, k, v, h => by
    have ha : a.toList.length = sz := by rw [Array.length_toList]; exact hz a List.mem_cons_self
    have h' : (a.toList ++ flat l)[k]? = some v := h
    by_cases hk : k < sz
    · rw [List.getElem?_append_left (by omega)] at h'
      rw [Nat.div_eq_of_lt hk, Nat.mod_eq_of_lt hk]
      exact ⟨a, rfl, h'⟩
    · rw [List.getElem?_append_right (by omega), ha] at h'
      obtain ⟨c, q1, q2⟩ := flat_inv h0 (ls := l) (fun c hc => hz c (List.mem_cons_of_mem _ hc)) (k - sz) v h'
      have e1 : k / sz = (k - sz) / sz + 1 := by
        rw [← Nat.add_div_right _ h0, Nat.sub_add_cancel (by omega)]
      have e2 : k % sz = (k - sz) % sz := by
        conv => lhs; rw [← Nat.sub_add_cancel (show sz ≤ k by omega), Nat.add_mod_right]
      exact ⟨c, by rw [e1]; simpa using q1, by rw [e2]; exact q2⟩
/-- Rows of one size, each cell of one cell. -/
def Rs (sz : Nat) (l : List (Array Value)) : Prop := ∀ c ∈ l, c.size = sz ∧ c.all (·.oneCell') = true
theorem Rs.sz {sz : Nat} {l : List (Array Value)} (h : Rs sz l) : ∀ c ∈ l, c.size = sz := fun c hc => (h c hc).1
theorem Rs.one {sz : Nat} {l : List (Array Value)} (h : Rs sz l) : ∀ u ∈ flat l, u.oneCell' = true := fun u hu => by
  obtain ⟨c, hc, hu⟩ := List.mem_flatMap.1 hu
  exact Array.all_eq_true_iff_forall_mem.1 (h c hc).2 u (by simpa using hu)
theorem Rs.app {sz : Nat} {a b : List (Array Value)} (h1 : Rs sz a) (h2 : Rs sz b) : Rs sz (a ++ b) := fun c hc => by
  rcases List.mem_append.1 hc with h | h
  · exact h1 c h
  · exact h2 c h
/-- A list of rows as it lies. -/
def Ls (W : World) (v : Value) (sz : Nat) (l : List (Array Value)) : Prop :=
  ∃ oa cap, v = .slice oa l.length cap ∧ (oa = none → cap = 0) ∧ l.length ≤ cap ∧ cap ≤ maxLen ∧ Rs sz l ∧ ∀ (i : Nat) c, l[i]? = some c → ∃ g o, oa = some ⟨g, o, none⟩ ∧ g < W.heap.size ∧ W.rangeAt g (o + i * sz) c.toList
theorem range_block {W W' : World} {g o : Nat} {l : List Value} (h : W.rangeAt g o l) (hb : W'.heap[g]? = W.heap[g]?) : W'.rangeAt g o l := fun j u hu => (World.cell?_of_block (w := W) (a := ⟨g, o + j, none⟩) hb).trans (h j u hu)
theorem Ls.below {W W' : World} {v : Value} {sz : Nat} {l : List (Array Value)} (h : Ls W v sz l) (hb : Below W.heap.size W W') : Ls W' v sz l := by
  obtain ⟨oa, cap, h1, h2, h3, h4, h5, h6⟩ := h
  refine ⟨oa, cap, h1, h2, h3, h4, h5, fun i c hc => ?_⟩
  obtain ⟨g, o, e1, e2, e3⟩ := h6 i c hc
  exact ⟨g, o, e1, Nat.lt_of_lt_of_le e2 hb.size, range_block e3 (hb.block g e2)⟩
theorem ls_nil (W : World) (sz : Nat) : Ls W (.slice none 0 0) sz [] := ⟨none, 0, rfl, fun _ => rfl, Nat.le_refl _, Nat.zero_le _, (fun c h => by cases h), fun i c h => by simp at h⟩
theorem Ls.rs {W : World} {v : Value} {sz : Nat} {l : List (Array Value)} (h : Ls W v sz l) : Rs sz l := by
  obtain ⟨_, _, _, _, _, _, h, _⟩ := h
  exact h
/-- Rows of one's own. -/
def Ol (base e sz : Nat) (W : World) (v : Value) (l : List (Array Value)) : Prop := W.ownsRow base e sz v l.length (flat l) ∧ Rs sz l
theorem Ol.ls {base e sz : Nat} {W : World} {v : Value} {l : List (Array Value)} (h : Ol base e sz W v l) : Ls W v sz l := by
  obtain ⟨ho, hr⟩ := h
  rcases ho.2 with ⟨rfl, h2⟩ | ⟨g, cap, cur, h1, h2, h3, h4, h5, h6, h7⟩
  · obtain rfl : l = [] := List.length_eq_zero_iff.1 h2
    exact ls_nil W sz
  · refine ⟨some ⟨g, 0, none⟩, cap, h1, (fun q => by cases q), h4, h5, hr, fun i c hc => ⟨g, 0, rfl, (Array.getElem?_eq_some_iff.1 h3).1, fun j u hu => ?_⟩⟩
    have := ho.cells (g := g) (by rw [h1]; rfl) (i * sz + j) u (flat_at hr.sz i c hc j u hu)
    rw [Addr.add_mid, Nat.zero_add] at this
    rw [Nat.zero_add]
    exact this
theorem ol_nil (base e sz : Nat) (W : World) : Ol base e sz W (.slice none 0 0) [] := ⟨World.ownsRow_nil _ _ _ _, fun c h => by cases h⟩
theorem info_parts {P : Program} {e : TypeId} {z : Option Value} {s b : Nat} (h : (P.info? e).map (fun i => (i.zero, i.size, i.bytes)) = some (z, s, b)) : ∃ i, P.info? e = some i ∧ i.zero = z ∧ i.size = s ∧ i.bytes = b := by
  cases hq : P.info? e with
  | none => simp [hq] at h
  | some i =>
    rw [hq] at h
    simp only [Option.map_some, Option.some.injEq, Prod.mk.injEq] at h
    exact ⟨i, rfl, h.1, h.2.1, h.2.2⟩
def MX : Nat := 100000000000
/-- What an append leaves. -/
def ApP (base e sz : Nat) (w : World) (v : Value) (l : List (Array Value)) (v' : Value) (w' : World) : Prop := Ol base e sz w' v' l ∧ w.grownBy w' v.ownBlock ∧ (v'.ownBlock = v.ownBlock ∨ v'.ownBlock = some w.heap.size)
theorem run_ap {t ty e sz bytes : Nat} {z : Value} (ht : Try.prog.underlying t = some (.slice e)) (hi : (Try.prog.info? e).map (fun i => (i.zero, i.size, i.bytes)) = some (some z, sz, bytes)) (hz : z.cells.size = sz) (h0 : 0 < sz) (hby : bytes ≤ 1000) (w : World) (base : Nat) (v u : Value) (xs ys : List (Array Value)) (ho : Ol base e sz w v xs) (hu : Ls w u sz ys) (hb : xs.length + ys.length ≤ MX) (hbase : base ≤ w.heap.size) :
    ∃ v' w', (Builtin.append_ #[t, t] ty #[v, u]).run Try.prog w = .ok v' w' ∧ ApP base e sz w v (xs ++ ys) v' w' := by
  obtain ⟨i0, hi0, hz0, hz1, hz2⟩ := info_parts hi
  obtain ⟨oa, cap, rfl, h1, h2, h3, h4, h5⟩ := hu
  unfold MX at hb
  cases oa with
  | none =>
    obtain rfl := h1 rfl
    obtain rfl : ys = [] := List.length_eq_zero_iff.1 (by omega)
    refine ⟨v, w, run_append_owned_none (P := Try.prog) (w := w) base t ty e i0 sz ht hi0 v _ _ ho.1, ?_, ⟨rfl, rfl, rfl, Nat.le_refl _, fun _ _ _ => rfl⟩, .inl rfl⟩
    rw [List.append_nil]
    exact ho
  | some a =>
    have key : ∀ (k : Nat) x, (flat ys)[k]? = some x → w.cell? (a.add k) = some x := fun k x hx => by
      obtain ⟨c, q1, q2⟩ := flat_inv h0 h4.sz k x hx
      obtain ⟨g, o, e1, e2, e3⟩ := h5 _ c q1
      cases e1
      have := e3 _ x q2
      rw [Addr.add_mid, show o + k = o + k / sz * sz + k % sz by rw [Nat.add_assoc, Nat.mul_comm, Nat.div_add_mod]]
      exact this
    have hm : (xs.length + ys.length) * bytes ≤ 140737488355328 := Nat.le_trans (Nat.mul_le_mul hb hby) (by omega)
    obtain ⟨v', w', hr, hw, hg, -, hat⟩ := run_append_own_at (P := Try.prog) w base t ty e i0 z sz bytes ht hi0 hz0 hz1 hz2 hz h0 v xs.length _ ho.1 a ys.length cap (flat ys) (flat_len h4.sz) key h4.one (by unfold maxLen; omega) hm hbase
    exact ⟨v', w', hr, ⟨by rw [List.length_append, flat_app]; exact hw, ho.2.app h4⟩, hg, hat⟩
theorem ApP.fresh {base e sz : Nat} {w w' : World} {v' : Value} {l : List (Array Value)} (h : ApP base e sz w (.slice none 0 0) l v' w') : Below w.heap.size w w' := ⟨h.2.1.os, h.2.1.tape, h.2.1.output, h.2.1.size, fun j hj => h.2.1.block j hj (fun q => by cases q)⟩
theorem infoO : (Try.prog.info? 39).map (fun i => (i.zero, i.size, i.bytes)) = some (some (.agg #[.string ⟨#[]⟩, .string ⟨#[]⟩, .string ⟨#[]⟩, .string ⟨#[]⟩]), 4, 64) := by kernel_rfl
theorem infoI : (Try.prog.info? 42).map (fun i => (i.zero, i.size, i.bytes)) = some (some (.agg #[.string ⟨#[]⟩, .slice none 0 0]), 2, 40) := by kernel_rfl
theorem infoS : (Try.prog.info? 9).map (fun i => (i.zero, i.size, i.bytes)) = some (some (.string ⟨#[]⟩), 1, 16) := by kernel_rfl
theorem infoP : (Try.prog.info? 44).map (fun i => (i.zero, i.size, i.bytes)) = some (some (.agg #[.string ⟨#[]⟩, .string ⟨#[]⟩]), 2, 32) := by kernel_rfl
theorem infoL : (Try.prog.info? 24).map (fun i => (i.zero, i.size, i.bytes)) = some (some (.slice none 0 0), 1, 24) := by kernel_rfl
def apO (ty : Nat) (vs : Array Value) : Sem Value := Builtin.append_ #[22, 22] ty vs
theorem toApO (ty : Nat) (vs : Array Value) : Builtin.append_ #[22, 22] ty vs = apO ty vs := rfl
def apI (ty : Nat) (vs : Array Value) : Sem Value := Builtin.append_ #[23, 23] ty vs
theorem toApI (ty : Nat) (vs : Array Value) : Builtin.append_ #[23, 23] ty vs = apI ty vs := rfl
def apS (ty : Nat) (vs : Array Value) : Sem Value := Builtin.append_ #[24, 24] ty vs
theorem toApS (ty : Nat) (vs : Array Value) : Builtin.append_ #[24, 24] ty vs = apS ty vs := rfl
def apP (ty : Nat) (vs : Array Value) : Sem Value := Builtin.append_ #[25, 25] ty vs
theorem toApP (ty : Nat) (vs : Array Value) : Builtin.append_ #[25, 25] ty vs = apP ty vs := rfl
def apL (ty : Nat) (vs : Array Value) : Sem Value := Builtin.append_ #[28, 28] ty vs
theorem toApL (ty : Nat) (vs : Array Value) : Builtin.append_ #[28, 28] ty vs = apL ty vs := rfl
theorem run_apO (w : World) (base : Nat) (v u : Value) (xs ys : List (Array Value)) (ho : Ol base 39 4 w v xs) (hu : Ls w u 4 ys) (hb : xs.length + ys.length ≤ MX) (hbase : base ≤ w.heap.size) : ∃ v' w', (apO 22 #[v, u]).run Try.prog w = .ok v' w' ∧ ApP base 39 4 w v (xs ++ ys) v' w' := run_ap Try.underlying22 infoO rfl (by omega) (by omega) w base v u xs ys ho hu hb hbase
theorem run_apI (w : World) (base : Nat) (v u : Value) (xs ys : List (Array Value)) (ho : Ol base 42 2 w v xs) (hu : Ls w u 2 ys) (hb : xs.length + ys.length ≤ MX) (hbase : base ≤ w.heap.size) : ∃ v' w', (apI 23 #[v, u]).run Try.prog w = .ok v' w' ∧ ApP base 42 2 w v (xs ++ ys) v' w' := run_ap Try.underlying23 infoI rfl (by omega) (by omega) w base v u xs ys ho hu hb hbase
theorem run_apS (w : World) (base : Nat) (v u : Value) (xs ys : List (Array Value)) (ho : Ol base 9 1 w v xs) (hu : Ls w u 1 ys) (hb : xs.length + ys.length ≤ MX) (hbase : base ≤ w.heap.size) : ∃ v' w', (apS 24 #[v, u]).run Try.prog w = .ok v' w' ∧ ApP base 9 1 w v (xs ++ ys) v' w' := run_ap Try.underlying24 infoS rfl (by omega) (by omega) w base v u xs ys ho hu hb hbase
theorem run_apP (w : World) (base : Nat) (v u : Value) (xs ys : List (Array Value)) (ho : Ol base 44 2 w v xs) (hu : Ls w u 2 ys) (hb : xs.length + ys.length ≤ MX) (hbase : base ≤ w.heap.size) : ∃ v' w', (apP 25 #[v, u]).run Try.prog w = .ok v' w' ∧ ApP base 44 2 w v (xs ++ ys) v' w' := run_ap Try.underlying25 infoP rfl (by omega) (by omega) w base v u xs ys ho hu hb hbase
theorem run_apL (w : World) (base : Nat) (v u : Value) (xs ys : List (Array Value)) (ho : Ol base 24 1 w v xs) (hu : Ls w u 1 ys) (hb : xs.length + ys.length ≤ MX) (hbase : base ≤ w.heap.size) : ∃ v' w', (apL 28 #[v, u]).run Try.prog w = .ok v' w' ∧ ApP base 24 1 w v (xs ++ ys) v' w' := run_ap Try.underlying28 infoL rfl (by omega) (by omega) w base v u xs ys ho hu hb hbase
end Go.Proofs.Ytcggaiplepekdaa
