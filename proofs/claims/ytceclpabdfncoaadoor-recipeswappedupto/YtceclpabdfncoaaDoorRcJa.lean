/- Several texts in one: RcA, RcB, RsM, RcC, RcD, RcE. -/
import Derived.Test.YtceclpabdfncoaaDoorChecked
import Derived.WalkKit
import Derived.RowKitTokens
import Derived.Deep.MidRow
import Derived.Maps.AppendAt
import Derived.Laws.OwnMore
import Derived.BigRegion
import Derived.BigQuiet
import Derived.Laws.StructEq
/- Recipes: lists of rows as they lie. -/
namespace Go.Proofs.YtceclpabdfncoaaDoor.Re
open Go.RowKit
def flat (l : List (Array Value)) : List Value := l.flatMap (·.toList)
theorem flat_app (a b : List (Array Value)) : flat (a ++ b) = flat a ++ flat b := by simp [flat]
theorem flat_len {sz : Nat} : ∀ {ls : List (Array Value)}, (∀ c ∈ ls, c.size = sz) → (flat ls).length = ls.length * sz
  | [], _ => by simp [flat]
  | a :: l, h => by
    have h1 := flat_len (ls := l) (fun c hc => h c (List.mem_cons_of_mem _ hc))
    have h2 := h a List.mem_cons_self
    show (a.toList ++ flat l).length = _
    rw [List.length_append, h1, Array.length_toList, h2, List.length_cons, Nat.add_mul]
    omega
theorem flat_at {sz : Nat} : ∀ {ls : List (Array Value)}, (∀ c ∈ ls, c.size = sz) → ∀ (i : Nat) c, ls[i]? = some c → ∀ (j : Nat) v, c.toList[j]? = some v → (flat ls)[i * sz + j]? = some v
  | [], _, i, c, h, _, _, _ => by simp at h
  | a :: l, _, 0, c, h, j, v, hv => by
    obtain rfl : a = c := by simpa using h
    have hj : j < a.toList.length := (List.getElem?_eq_some_iff.1 hv).1
    show (a.toList ++ flat l)[0 * sz + j]? = _
    rw [Nat.zero_mul, Nat.zero_add, List.getElem?_append_left hj]
    exact hv
  | a :: l, hz, i + 1, c, h, j, v, hv => by
    have := flat_at (sz := sz) (ls := l) (fun c hc => hz c (List.mem_cons_of_mem _ hc)) i c (by simpa using h) j v hv
    have ha : a.toList.length = sz := by rw [Array.length_toList]; exact hz a List.mem_cons_self
    show (a.toList ++ flat l)[(i + 1) * sz + j]? = _
    rw [List.getElem?_append_right (by rw [ha, Nat.add_mul]; omega), ha, show (i + 1) * sz + j - sz = i * sz + j by rw [Nat.add_mul]; omega]
    exact this
theorem flat_inv {sz : Nat} (h0 : 0 < sz) : ∀ {ls : List (Array Value)}, (∀ c ∈ ls, c.size = sz) → ∀ (k : Nat) v, (flat ls)[k]? = some v → ∃ c, ls[k / sz]? = some c ∧ c.toList[k % sz]? = some v
  | [], _, k, v, h => by simp [flat] at h
  | a :: l, hz, k, v, h => by
    have ha : a.toList.length = sz := by rw [Array.length_toList]; exact hz a List.mem_cons_self
    have h' : (a.toList ++ flat l)[k]? = some v := h
    by_cases hk : k < sz
    · rw [List.getElem?_append_left (by omega)] at h'
      rw [Nat.div_eq_of_lt hk, Nat.mod_eq_of_lt hk]
      exact ⟨a, rfl, h'⟩
    · rw [List.getElem?_append_right (by omega), ha] at h'
      obtain ⟨c, q1, q2⟩ := flat_inv h0 (ls := l) (fun c hc => hz c (List.mem_cons_of_mem _ hc)) (k - sz) v h'
      have e1 : k / sz = (k - sz) / sz + 1 := by
        rw [← Nat.add_div_right _ h0, Nat.sub_add_cancel (by omega)]
      have e2 : k % sz = (k - sz) % sz := by
        conv => lhs; rw [← Nat.sub_add_cancel (show sz ≤ k by omega), Nat.add_mod_right]
      exact ⟨c, by rw [e1]; simpa using q1, by rw [e2]; exact q2⟩
/-- Rows of one size, each cell of one cell. -/
def Rs (sz : Nat) (l : List (Array Value)) : Prop := ∀ c ∈ l, c.size = sz ∧ c.all (·.oneCell') = true
theorem Rs.sz {sz : Nat} {l : List (Array Value)} (h : Rs sz l) : ∀ c ∈ l, c.size = sz := fun c hc => (h c hc).1
theorem Rs.one {sz : Nat} {l : List (Array Value)} (h : Rs sz l) : ∀ u ∈ flat l, u.oneCell' = true := fun u hu => by
  obtain ⟨c, hc, hu⟩ := List.mem_flatMap.1 hu
  exact Array.all_eq_true_iff_forall_mem.1 (h c hc).2 u (by simpa using hu)
theorem Rs.app {sz : Nat} {a b : List (Array Value)} (h1 : Rs sz a) (h2 : Rs sz b) : Rs sz (a ++ b) := fun c hc => by
  rcases List.mem_append.1 hc with h | h
  · exact h1 c h
  · exact h2 c h
/-- A list of rows as it lies. -/
def Ls (W : World) (v : Value) (sz : Nat) (l : List (Array Value)) : Prop :=
  ∃ oa cap, v = .slice oa l.length cap ∧ (oa = none → cap = 0) ∧ l.length ≤ cap ∧ cap ≤ maxLen ∧ Rs sz l ∧ ∀ (i : Nat) c, l[i]? = some c → ∃ g o, oa = some ⟨g, o, none⟩ ∧ g < W.heap.size ∧ W.rangeAt g (o + i * sz) c.toList
theorem range_block {W W' : World} {g o : Nat} {l : List Value} (h : W.rangeAt g o l) (hb : W'.heap[g]? = W.heap[g]?) : W'.rangeAt g o l := fun j u hu => (World.cell?_of_block (w := W) (a := ⟨g, o + j, none⟩) hb).trans (h j u hu)
theorem Ls.below {W W' : World} {v : Value} {sz : Nat} {l : List (Array Value)} (h : Ls W v sz l) (hb : Below W.heap.size W W') : Ls W' v sz l := by
  obtain ⟨oa, cap, h1, h2, h3, h4, h5, h6⟩ := h
  refine ⟨oa, cap, h1, h2, h3, h4, h5, fun i c hc => ?_⟩
  obtain ⟨g, o, e1, e2, e3⟩ := h6 i c hc
  exact ⟨g, o, e1, Nat.lt_of_lt_of_le e2 hb.size, range_block e3 (hb.block g e2)⟩
theorem ls_nil (W : World) (sz : Nat) : Ls W (.slice none 0 0) sz [] := ⟨none, 0, rfl, fun _ => rfl, Nat.le_refl _, Nat.zero_le _, (fun c h => by cases h), fun i c h => by simp at h⟩
theorem Ls.rs {W : World} {v : Value} {sz : Nat} {l : List (Array Value)} (h : Ls W v sz l) : Rs sz l := by
  obtain ⟨_, _, _, _, _, _, h, _⟩ := h
  exact h
/-- Rows of one's own. -/
def Ol (base e sz : Nat) (W : World) (v : Value) (l : List (Array Value)) : Prop := W.ownsRow base e sz v l.length (flat l) ∧ Rs sz l
theorem Ol.ls {base e sz : Nat} {W : World} {v : Value} {l : List (Array Value)} (h : Ol base e sz W v l) : Ls W v sz l := by
  obtain ⟨ho, hr⟩ := h
  rcases ho.2 with ⟨rfl, h2⟩ | ⟨g, cap, cur, h1, h2, h3, h4, h5, h6, h7⟩
  · obtain rfl : l = [] := List.length_eq_zero_iff.1 h2
    exact ls_nil W sz
  · refine ⟨some ⟨g, 0, none⟩, cap, h1, (fun q => by cases q), h4, h5, hr, fun i c hc => ⟨g, 0, rfl, (Array.getElem?_eq_some_iff.1 h3).1, fun j u hu => ?_⟩⟩
    have := ho.cells (g := g) (by rw [h1]; rfl) (i * sz + j) u (flat_at hr.sz i c hc j u hu)
    rw [Addr.add_mid, Nat.zero_add] at this
    rw [Nat.zero_add]
    exact this
theorem ol_nil (base e sz : Nat) (W : World) : Ol base e sz W (.slice none 0 0) [] := ⟨World.ownsRow_nil _ _ _ _, fun c h => by cases h⟩
theorem info_parts {P : Program} {e : TypeId} {z : Option Value} {s b : Nat} (h : (P.info? e).map (fun i => (i.zero, i.size, i.bytes)) = some (z, s, b)) : ∃ i, P.info? e = some i ∧ i.zero = z ∧ i.size = s ∧ i.bytes = b := by
  cases hq : P.info? e with
  | none => simp [hq] at h
  | some i =>
    rw [hq] at h
    simp only [Option.map_some, Option.some.injEq, Prod.mk.injEq] at h
    exact ⟨i, rfl, h.1, h.2.1, h.2.2⟩
def MX : Nat := 100000000000
/-- What an append leaves. -/
def ApP (base e sz : Nat) (w : World) (v : Value) (l : List (Array Value)) (v' : Value) (w' : World) : Prop := Ol base e sz w' v' l ∧ w.grownBy w' v.ownBlock ∧ (v'.ownBlock = v.ownBlock ∨ v'.ownBlock = some w.heap.size)
theorem run_ap {t ty e sz bytes : Nat} {z : Value} (ht : Tryd.prog.underlying t = some (.slice e)) (hi : (Tryd.prog.info? e).map (fun i => (i.zero, i.size, i.bytes)) = some (some z, sz, bytes)) (hz : z.cells.size = sz) (h0 : 0 < sz) (hby : bytes ≤ 1000) (w : World) (base : Nat) (v u : Value) (xs ys : List (Array Value)) (ho : Ol base e sz w v xs) (hu : Ls w u sz ys) (hb : xs.length + ys.length ≤ MX) (hbase : base ≤ w.heap.size) :
    ∃ v' w', (Builtin.append_ #[t, t] ty #[v, u]).run Tryd.prog w = .ok v' w' ∧ ApP base e sz w v (xs ++ ys) v' w' := by
  obtain ⟨i0, hi0, hz0, hz1, hz2⟩ := info_parts hi
  obtain ⟨oa, cap, rfl, h1, h2, h3, h4, h5⟩ := hu
  unfold MX at hb
  cases oa with
  | none =>
    obtain rfl := h1 rfl
    obtain rfl : ys = [] := List.length_eq_zero_iff.1 (by omega)
    refine ⟨v, w, run_append_owned_none (P := Tryd.prog) (w := w) base t ty e i0 sz ht hi0 v _ _ ho.1, ?_, ⟨rfl, rfl, rfl, Nat.le_refl _, fun _ _ _ => rfl⟩, .inl rfl⟩
    rw [List.append_nil]
    exact ho
  | some a =>
    have key : ∀ (k : Nat) x, (flat ys)[k]? = some x → w.cell? (a.add k) = some x := fun k x hx => by
      obtain ⟨c, q1, q2⟩ := flat_inv h0 h4.sz k x hx
      obtain ⟨g, o, e1, e2, e3⟩ := h5 _ c q1
      cases e1
      have := e3 _ x q2
      rw [Addr.add_mid, show o + k = o + k / sz * sz + k % sz by rw [Nat.add_assoc, Nat.mul_comm, Nat.div_add_mod]]
      exact this
    have hm : (xs.length + ys.length) * bytes ≤ 140737488355328 := Nat.le_trans (Nat.mul_le_mul hb hby) (by omega)
    obtain ⟨v', w', hr, hw, hg, -, hat⟩ := run_append_own_at (P := Tryd.prog) w base t ty e i0 z sz bytes ht hi0 hz0 hz1 hz2 hz h0 v xs.length _ ho.1 a ys.length cap (flat ys) (flat_len h4.sz) key h4.one (by unfold maxLen; omega) hm hbase
    exact ⟨v', w', hr, ⟨by rw [List.length_append, flat_app]; exact hw, ho.2.app h4⟩, hg, hat⟩
theorem ApP.fresh {base e sz : Nat} {w w' : World} {v' : Value} {l : List (Array Value)} (h : ApP base e sz w (.slice none 0 0) l v' w') : Below w.heap.size w w' := ⟨h.2.1.os, h.2.1.tape, h.2.1.output, h.2.1.size, fun j hj => h.2.1.block j hj (fun q => by cases q)⟩
theorem infoO : (Tryd.prog.info? 48).map (fun i => (i.zero, i.size, i.bytes)) = some (some (.agg #[.string ⟨#[]⟩, .string ⟨#[]⟩, .string ⟨#[]⟩, .string ⟨#[]⟩]), 4, 64) := by kernel_rfl
theorem infoI : (Tryd.prog.info? 45).map (fun i => (i.zero, i.size, i.bytes)) = some (some (.agg #[.string ⟨#[]⟩, .slice none 0 0]), 2, 40) := by kernel_rfl
theorem infoS : (Tryd.prog.info? 9).map (fun i => (i.zero, i.size, i.bytes)) = some (some (.string ⟨#[]⟩), 1, 16) := by kernel_rfl
theorem infoP : (Tryd.prog.info? 50).map (fun i => (i.zero, i.size, i.bytes)) = some (some (.agg #[.string ⟨#[]⟩, .string ⟨#[]⟩]), 2, 32) := by kernel_rfl
theorem infoL : (Tryd.prog.info? 22).map (fun i => (i.zero, i.size, i.bytes)) = some (some (.slice none 0 0), 1, 24) := by kernel_rfl
def apO (ty : Nat) (vs : Array Value) : Sem Value := Builtin.append_ #[29, 29] ty vs
theorem toApO (ty : Nat) (vs : Array Value) : Builtin.append_ #[29, 29] ty vs = apO ty vs := rfl
def apI (ty : Nat) (vs : Array Value) : Sem Value := Builtin.append_ #[30, 30] ty vs
theorem toApI (ty : Nat) (vs : Array Value) : Builtin.append_ #[30, 30] ty vs = apI ty vs := rfl
def apS (ty : Nat) (vs : Array Value) : Sem Value := Builtin.append_ #[22, 22] ty vs
theorem toApS (ty : Nat) (vs : Array Value) : Builtin.append_ #[22, 22] ty vs = apS ty vs := rfl
def apP (ty : Nat) (vs : Array Value) : Sem Value := Builtin.append_ #[31, 31] ty vs
theorem toApP (ty : Nat) (vs : Array Value) : Builtin.append_ #[31, 31] ty vs = apP ty vs := rfl
theorem run_apO (w : World) (base : Nat) (v u : Value) (xs ys : List (Array Value)) (ho : Ol base 48 4 w v xs) (hu : Ls w u 4 ys) (hb : xs.length + ys.length ≤ MX) (hbase : base ≤ w.heap.size) : ∃ v' w', (apO 29 #[v, u]).run Tryd.prog w = .ok v' w' ∧ ApP base 48 4 w v (xs ++ ys) v' w' := run_ap Tryd.underlying29 infoO rfl (by omega) (by omega) w base v u xs ys ho hu hb hbase
theorem run_apI (w : World) (base : Nat) (v u : Value) (xs ys : List (Array Value)) (ho : Ol base 45 2 w v xs) (hu : Ls w u 2 ys) (hb : xs.length + ys.length ≤ MX) (hbase : base ≤ w.heap.size) : ∃ v' w', (apI 30 #[v, u]).run Tryd.prog w = .ok v' w' ∧ ApP base 45 2 w v (xs ++ ys) v' w' := run_ap Tryd.underlying30 infoI rfl (by omega) (by omega) w base v u xs ys ho hu hb hbase
theorem run_apS (w : World) (base : Nat) (v u : Value) (xs ys : List (Array Value)) (ho : Ol base 9 1 w v xs) (hu : Ls w u 1 ys) (hb : xs.length + ys.length ≤ MX) (hbase : base ≤ w.heap.size) : ∃ v' w', (apS 22 #[v, u]).run Tryd.prog w = .ok v' w' ∧ ApP base 9 1 w v (xs ++ ys) v' w' := run_ap Tryd.underlying22 infoS rfl (by omega) (by omega) w base v u xs ys ho hu hb hbase
theorem run_apP (w : World) (base : Nat) (v u : Value) (xs ys : List (Array Value)) (ho : Ol base 50 2 w v xs) (hu : Ls w u 2 ys) (hb : xs.length + ys.length ≤ MX) (hbase : base ≤ w.heap.size) : ∃ v' w', (apP 31 #[v, u]).run Tryd.prog w = .ok v' w' ∧ ApP base 50 2 w v (xs ++ ys) v' w' := run_ap Tryd.underlying31 infoP rfl (by omega) (by omega) w base v u xs ys ho hu hb hbase
end Go.Proofs.YtceclpabdfncoaaDoor.Re

/- Recipes: fresh, spare, texts. -/
namespace Go.Proofs.YtceclpabdfncoaaDoor.Re
open Go.RowKit
abbrev S := ByteArray
def sR (s : S) : Array Value := #[.string s]
abbrev Out := S × S × S × S
def oR (x : Out) : Array Value := #[.string x.1, .string x.2.1, .string x.2.2.1, .string x.2.2.2]
abbrev Pai := S × S
def eR (x : Pai) : Array Value := #[.string x.1, .string x.2]
def BEH : S := ⟨#[98, 101, 104, 105, 110, 100]⟩
theorem rs_s (l : List S) : Rs 1 (l.map sR) := fun c hc => by
  obtain ⟨x, _, rfl⟩ := List.mem_map.1 hc
  exact ⟨rfl, by simp [sR, Value.oneCell']⟩
theorem rs_o (l : List Out) : Rs 4 (l.map oR) := fun c hc => by
  obtain ⟨x, _, rfl⟩ := List.mem_map.1 hc
  exact ⟨rfl, by simp [oR, Value.oneCell']⟩
theorem rs_e (l : List Pai) : Rs 2 (l.map eR) := fun c hc => by
  obtain ⟨x, _, rfl⟩ := List.mem_map.1 hc
  exact ⟨rfl, by simp [eR, Value.oneCell']⟩
/-- One row that was just laid. -/
theorem ls_one (w : World) (c : Array Value) (e sz : Nat) (hc : c.size = sz) (h1 : c.all (·.oneCell') = true) : Ls (w.alloc (.cells c e)) (.slice (some ⟨w.heap.size, 0, none⟩) 1 1) sz [c] := by
  refine ⟨some ⟨w.heap.size, 0, none⟩, 1, rfl, (fun q => by cases q), Nat.le_refl _, by unfold maxLen; omega, (fun d hd => by simp at hd; subst hd; exact ⟨hc, h1⟩), fun i d hd => ⟨w.heap.size, 0, rfl, by simp, ?_⟩⟩
  have hi : i = 0 := by have := (List.getElem?_eq_some_iff.1 hd).1; simpa using this
  subst hi
  obtain rfl : c = d := by simpa using hd
  intro j u hu
  rw [Nat.zero_mul, Nat.zero_add, cell_of_row _ _ _ _ _ _ (heap_alloc_new _ _)]
  simpa using hu
theorem drew_bel {W w : World} (h : ∃ m, w = W.drewN m) : Below W.heap.size W w := by
  obtain ⟨m, rfl⟩ := h
  exact ⟨rfl, rfl, rfl, Nat.le_refl _, fun _ _ => rfl⟩
theorem drew_more {W w : World} (h : ∃ m, w = W.drewN m) : ∃ m, w.drew = W.drewN m := by
  obtain ⟨m, rfl⟩ := h
  exact ⟨m + 1, rfl⟩
def FrP (W : World) (e sz : Nat) (l : List (Array Value)) (en : Ending) (w' : World) : Prop := ∃ v', en = .returned v' ∧ Ol W.heap.size e sz w' v' l ∧ Below W.heap.size W w'
section
attribute [local go_sem ↓] toApO toApI toApS toApP
set_option maxRecDepth 100000 in
theorem freshO (W : World) (v : Value) (l : List (Array Value)) (h : Ls W v 4 l) (hl : l.length ≤ MX) : Calls Tryd.prog 25 #[v] W (FrP W 48 4 l) := by
  obtain ⟨v', w', hr, hP⟩ := run_apO W W.heap.size (.slice none 0 0) v [] l (ol_nil _ _ _ _) h (by simpa using hl) (Nat.le_refl _)
  have HP : Hid _ := hP
  obtain ⟨oa, cap, hv, -⟩ := id h
  obtain ⟨n, hn⟩ : ∃ n, l.length = n := ⟨_, rfl⟩
  rw [hn] at hv
  subst hv
  obtain ⟨o', n', c', hv'⟩ : ∃ a b c, v' = .slice a b c := by
    rcases hP.1.1.2 with ⟨q, _⟩ | ⟨_, _, _, q, _⟩ <;> exact ⟨_, _, _, q⟩
  subst hv'
  clear h hl hP hn
  go_enter Tryd.func25, Tryd.ntmps25
  go_wp2_with fail
  go_ret
  exact ⟨_, rfl, by simpa using HP.out.1, ApP.fresh HP.out⟩
set_option maxRecDepth 100000 in
theorem freshI (W : World) (v : Value) (l : List (Array Value)) (h : Ls W v 2 l) (hl : l.length ≤ MX) : Calls Tryd.prog 26 #[v] W (FrP W 45 2 l) := by
  obtain ⟨v', w', hr, hP⟩ := run_apI W W.heap.size (.slice none 0 0) v [] l (ol_nil _ _ _ _) h (by simpa using hl) (Nat.le_refl _)
  have HP : Hid _ := hP
  obtain ⟨oa, cap, hv, -⟩ := id h
  obtain ⟨n, hn⟩ : ∃ n, l.length = n := ⟨_, rfl⟩
  rw [hn] at hv
  subst hv
  obtain ⟨o', n', c', hv'⟩ : ∃ a b c, v' = .slice a b c := by
    rcases hP.1.1.2 with ⟨q, _⟩ | ⟨_, _, _, q, _⟩ <;> exact ⟨_, _, _, q⟩
  subst hv'
  clear h hl hP hn
  go_enter Tryd.func26, Tryd.ntmps26
  go_wp2_with fail
  go_ret
  exact ⟨_, rfl, by simpa using HP.out.1, ApP.fresh HP.out⟩
set_option maxRecDepth 100000 in
theorem freshS (W : World) (v : Value) (l : List (Array Value)) (h : Ls W v 1 l) (hl : l.length ≤ MX) : Calls Tryd.prog 27 #[v] W (FrP W 9 1 l) := by
  obtain ⟨v', w', hr, hP⟩ := run_apS W W.heap.size (.slice none 0 0) v [] l (ol_nil _ _ _ _) h (by simpa using hl) (Nat.le_refl _)
  have HP : Hid _ := hP
  obtain ⟨oa, cap, hv, -⟩ := id h
  obtain ⟨n, hn⟩ : ∃ n, l.length = n := ⟨_, rfl⟩
  rw [hn] at hv
  subst hv
  obtain ⟨o', n', c', hv'⟩ : ∃ a b c, v' = .slice a b c := by
    rcases hP.1.1.2 with ⟨q, _⟩ | ⟨_, _, _, q, _⟩ <;> exact ⟨_, _, _, q⟩
  subst hv'
  clear h hl hP hn
  go_enter Tryd.func27, Tryd.ntmps27
  go_wp2_with fail
  go_ret
  exact ⟨_, rfl, by simpa using HP.out.1, ApP.fresh HP.out⟩
set_option maxRecDepth 100000 in
theorem freshP (W : World) (v : Value) (l : List (Array Value)) (h : Ls W v 2 l) (hl : l.length ≤ MX) : Calls Tryd.prog 28 #[v] W (FrP W 50 2 l) := by
  obtain ⟨v', w', hr, hP⟩ := run_apP W W.heap.size (.slice none 0 0) v [] l (ol_nil _ _ _ _) h (by simpa using hl) (Nat.le_refl _)
  have HP : Hid _ := hP
  obtain ⟨oa, cap, hv, -⟩ := id h
  obtain ⟨n, hn⟩ : ∃ n, l.length = n := ⟨_, rfl⟩
  rw [hn] at hv
  subst hv
  obtain ⟨o', n', c', hv'⟩ : ∃ a b c, v' = .slice a b c := by
    rcases hP.1.1.2 with ⟨q, _⟩ | ⟨_, _, _, q, _⟩ <;> exact ⟨_, _, _, q⟩
  subst hv'
  clear h hl hP hn
  go_enter Tryd.func28, Tryd.ntmps28
  go_wp2_with fail
  go_ret
  exact ⟨_, rfl, by simpa using HP.out.1, ApP.fresh HP.out⟩
end
end Go.Proofs.YtceclpabdfncoaaDoor.Re

/- Texts exchanged: the mathematics. -/
namespace Go.Proofs.YtceclpabdfncoaaDoor.Re
abbrev Bts := List UInt8
def bl (s : S) : Bts := s.data.toList
theorem bl_len (s : S) : (bl s).length = s.size := Array.length_toList
theorem bl_inj {a b : S} (h : bl a = bl b) : a = b := by
  cases a; cases b
  simp only [bl, Array.toList_inj] at h
  rw [h]
theorem bl_app (a b : S) : bl (a ++ b) = bl a ++ bl b := by unfold bl; rw [ByteArray.data_append]; simp
def tn (a : Bts) : List Nat := a.map (·.toNat)
/-- In order, or alike. -/
def Le (a b : Bts) : Prop := ¬ tn b < tn a
theorem Le.trans {a b c : Bts} (h1 : Le a b) (h2 : Le b c) : Le a c := by
  unfold Le at *
  rw [List.not_lt] at h1 h2 ⊢
  exact List.le_trans h1 h2
theorem u8n {x y : UInt8} (h : x.toNat = y.toNat) : x = y := UInt8.toNat_inj.1 h
theorem tn_cons (x : UInt8) (a : Bts) : tn (x :: a) = x.toNat :: tn a := rfl
theorem pre_mid : ∀ {a b c : Bts}, Le a c → Le c b → a <+: b → a <+: c
  | [], _, _, _, _, _ => List.nil_prefix
  | x :: a, [], _, _, _, h => by simp at h
  | x :: a, y :: b, [], h, _, _ => by
    exfalso; apply h
    rw [tn_cons]; exact List.nil_lt_cons _ _
  | x :: a, y :: b, z :: c, h1, h2, h3 => by
    unfold Le at h1 h2
    rw [tn_cons, tn_cons, List.cons_lt_cons_iff] at h1 h2
    obtain ⟨rfl, h4⟩ := List.cons_prefix_cons.1 h3
    obtain rfl : x = z := u8n (by omega)
    exact List.cons_prefix_cons.2 ⟨rfl, pre_mid (fun q => h1 (.inr ⟨rfl, q⟩)) (fun q => h2 (.inr ⟨rfl, q⟩)) h4⟩
theorem pre_le : ∀ {a b : Bts}, a <+: b → Le a b
  | [], b, _ => by
    intro h
    cases b with
    | nil => exact List.lt_irrefl _ h
    | cons x b => exact absurd h (by simp [tn])
  | x :: a, [], h => by simp at h
  | x :: a, y :: b, h => by
    obtain ⟨rfl, h4⟩ := List.cons_prefix_cons.1 h
    unfold Le
    rw [tn_cons, tn_cons, List.cons_lt_cons_iff]
    have := pre_le h4
    unfold Le at this
    rintro (q | ⟨_, q⟩)
    · omega
    · exact this q
theorem le_anti : ∀ {a b : Bts}, Le a b → Le b a → a = b
  | [], [], _, _ => rfl
  | [], y :: b, _, h => by exfalso; apply h; rw [tn_cons]; exact List.nil_lt_cons _ _
  | x :: a, [], h, _ => by exfalso; apply h; rw [tn_cons]; exact List.nil_lt_cons _ _
  | x :: a, y :: b, h1, h2 => by
    unfold Le at h1 h2
    rw [tn_cons, tn_cons, List.cons_lt_cons_iff] at h1 h2
    obtain rfl : x = y := u8n (by omega)
    rw [le_anti (a := a) (b := b) (fun q => h1 (.inr ⟨rfl, q⟩)) (fun q => h2 (.inr ⟨rfl, q⟩))]
/-- No one begins with another one. -/
def PF (C : List Pai) : Prop := C.Pairwise fun x y => ¬ bl x.1 <+: bl y.1 ∧ ¬ bl y.1 <+: bl x.1
/-- None is empty, none is another one or a piece of it. -/
def Apt (l : List S) : Prop := (∀ a ∈ l, bl a ≠ []) ∧ l.Pairwise fun x y => ¬ bl x <:+: bl y ∧ ¬ bl y <:+: bl x
theorem Apt.perm {l l' : List S} (h : l.Perm l') : Apt l ↔ Apt l' := by
  unfold Apt
  rw [h.pairwise_iff (fun q => ⟨q.2, q.1⟩)]
  constructor <;> rintro ⟨a, b⟩ <;> exact ⟨fun x hx => a x (by first | exact h.mem_iff.2 hx | exact h.mem_iff.1 hx), b⟩
theorem pw_at {α : Type} {R : α → α → Prop} (hs : ∀ x y, R x y → R y x) {l : List α} (h : l.Pairwise R) {i j : Nat} {x y : α} (hi : l[i]? = some x) (hj : l[j]? = some y) (hn : i ≠ j) : R x y := by
  obtain ⟨h1, rfl⟩ := List.getElem?_eq_some_iff.1 hi
  obtain ⟨h2, rfl⟩ := List.getElem?_eq_some_iff.1 hj
  rw [List.pairwise_iff_getElem] at h
  rcases Nat.lt_or_gt_of_ne hn with q | q
  · exact h i j h1 h2 q
  · exact hs _ _ (h j i h2 h1 q)
theorem pw_of {α : Type} {R : α → α → Prop} {l : List α} (h : ∀ (i j : Nat) (x y : α), i < j → l[i]? = some x → l[j]? = some y → R x y) : l.Pairwise R := by
  rw [List.pairwise_iff_getElem]
  intro i j h1 h2 q
  exact h i j _ _ q (List.getElem?_eq_getElem h1) (List.getElem?_eq_getElem h2)
/-- In order. -/
def Sd (C : List Pai) : Prop := ∀ (i j : Nat) (x y : Pai), i < j → C[i]? = some x → C[j]? = some y → Le (bl x.1) (bl y.1)
/-- Neighbours are apart. -/
def Nb (C : List Pai) (n : Nat) : Prop := ∀ (i : Nat) (x : Pai), i < n → C[i]? = some x → bl x.1 ≠ [] ∧ ∀ (k : Nat) (y : Pai), i = k + 1 → C[k]? = some y → ¬ bl y.1 <+: bl x.1
theorem pf_of {C : List Pai} (hs : Sd C) (hn : Nb C C.length) : PF C := by
  refine pw_of fun i j x y hij hi hj => ?_
  have hjl : j < C.length := (List.getElem?_eq_some_iff.1 hj).1
  have key : ¬ bl x.1 <+: bl y.1 := fun q => by
    obtain ⟨z, hz⟩ : ∃ z, C[i + 1]? = some z := ⟨_, List.getElem?_eq_getElem (by omega)⟩
    refine (hn (i + 1) z (by omega) hz).2 i x rfl hi ?_
    by_cases e : i + 1 = j
    · subst e
      obtain rfl : z = y := Option.some.inj (hz.symm.trans hj)
      exact q
    · exact pre_mid (hs i (i + 1) x z (by omega) hi hz) (hs (i + 1) j z y (by omega) hz hj) q
  exact ⟨key, fun q => key (by rw [le_anti (pre_le q) (hs i j x y hij hi hj)]; exact List.prefix_rfl)⟩
theorem not_nb {C : List Pai} {i : Nat} {x : Pai} (hi : C[i]? = some x) (h : bl x.1 = [] ∨ ∃ (k : Nat) (y : Pai), i = k + 1 ∧ C[k]? = some y ∧ bl y.1 <+: bl x.1) : ¬ Apt (C.map (·.1)) := fun ha => by
  rcases h with h | ⟨k, y, e, hk, hp⟩
  · exact ha.1 x.1 (List.mem_map.2 ⟨x, List.mem_of_getElem? hi, rfl⟩) h
  · have := pw_at (fun _ _ q => ⟨q.2, q.1⟩) ha.2 (i := k) (j := i) (x := y.1) (y := x.1) (by rw [List.getElem?_map, hk]; rfl) (by rw [List.getElem?_map, hi]; rfl) (by omega)
    exact this.1 hp.isInfix
/-- The change of the one with which a text begins. -/
def hit (C : List Pai) (t : Bts) : Option Pai := C.find? fun x => (bl x.1).isPrefixOf t
theorem hit_some {C : List Pai} {t : Bts} {x : Pai} (h : hit C t = some x) : x ∈ C ∧ bl x.1 <+: t := ⟨List.mem_of_find?_eq_some h, List.isPrefixOf_iff_prefix.1 (by have := List.find?_some (p := fun x : Pai => (bl x.1).isPrefixOf t) h; exact this)⟩
theorem hit_none {C : List Pai} {t : Bts} : hit C t = none ↔ ∀ x ∈ C, ¬ bl x.1 <+: t := by
  unfold hit
  rw [List.find?_eq_none]
  exact ⟨fun h x hx q => h x hx (List.isPrefixOf_iff_prefix.2 q), fun h x hx q => h x hx (List.isPrefixOf_iff_prefix.1 q)⟩
theorem pf_one {C : List Pai} (h : PF C) {t : Bts} {x y : Pai} (hx : x ∈ C) (hy : y ∈ C) (h1 : bl x.1 <+: t) (h2 : bl y.1 <+: t) : x = y := by
  obtain ⟨i, hi⟩ := List.mem_iff_getElem?.1 hx
  obtain ⟨j, hj⟩ := List.mem_iff_getElem?.1 hy
  by_cases e : i = j
  · subst e; exact Option.some.inj (hi.symm.trans hj)
  · have := pw_at (fun _ _ q => ⟨q.2, q.1⟩) h hi hj e
    rcases List.prefix_or_prefix_of_prefix h1 h2 with q | q
    · exact absurd q this.1
    · exact absurd q this.2
theorem hit_of {C : List Pai} (h : PF C) {t : Bts} {x : Pai} (hx : x ∈ C) (h1 : bl x.1 <+: t) : hit C t = some x := by
  cases hq : hit C t with
  | none => exact absurd h1 (hit_none.1 hq x hx)
  | some y => rw [pf_one h hx (hit_some hq).1 h1 (hit_some hq).2]
theorem PF.perm {C C' : List Pai} (h : C.Perm C') (hp : PF C) : PF C' := (h.pairwise_iff (fun q => ⟨q.2, q.1⟩)).1 hp
theorem hit_perm {C C' : List Pai} (h : C.Perm C') (hp : PF C) (t : Bts) : hit C t = hit C' t := by
  cases hq : hit C' t with
  | none => exact hit_none.2 fun x hx => hit_none.1 hq x (h.mem_iff.1 hx)
  | some y => exact hit_of hp (h.mem_iff.2 (hit_some hq).1) (hit_some hq).2
theorem Apt.pf {C : List Pai} (h : Apt (C.map (·.1))) : PF C := by
  refine pw_of fun i j x y hij hi hj => ?_
  have := pw_at (fun _ _ q => ⟨q.2, q.1⟩) h.2 (i := i) (j := j) (x := x.1) (y := y.1) (by rw [List.getElem?_map, hi]; rfl) (by rw [List.getElem?_map, hj]; rfl) (by omega)
  exact ⟨fun q => this.1 q.isInfix, fun q => this.2 q.isInfix⟩
/-- No change is empty. -/
def NE (C : List Pai) : Prop := ∀ x ∈ C, bl x.1 ≠ []
theorem hit_nil {C : List Pai} (h : NE C) : hit C [] = none := hit_none.2 fun x hx q => h x hx (List.prefix_nil.1 q)
/-- Behind the first byte of each one none stands: then they are apart. -/
theorem apt_of {C : List Pai} (hp : PF C) (hne : NE C) (h : ∀ x ∈ C, ∀ k, hit C (((bl x.1).drop 1).drop k) = none) : Apt (C.map (·.1)) := by
  refine ⟨fun a ha => ?_, ?_⟩
  · obtain ⟨x, hx, rfl⟩ := List.mem_map.1 ha
    exact hne x hx
  · have key : ∀ x ∈ C, ∀ y ∈ C, ¬ bl x.1 <+: bl y.1 → ¬ bl x.1 <:+: bl y.1 := fun x hx y hy hn q => by
      obtain ⟨s, t, e⟩ := q
      cases s with
      | nil => exact hn ⟨t, by simpa using e⟩
      | cons z s =>
        refine hit_none.1 (h y hy s.length) x hx ⟨t, ?_⟩
        rw [← e]
        simp
    rw [List.pairwise_map]
    refine List.Pairwise.imp_of_mem (fun hx hy q => ⟨key _ hx _ hy q.1, key _ hy _ hx q.2⟩) hp
theorem not_apt {C : List Pai} (hne : NE C) {x y : Pai} (hx : x ∈ C) {k : Nat} (h : hit C (((bl x.1).drop 1).drop k) = some y) : ¬ Apt (C.map (·.1)) := fun ha => by
  obtain ⟨hy, q⟩ := hit_some h
  have hinf : bl y.1 <:+: bl x.1 := q.isInfix.trans (((List.drop_suffix _ _).trans (List.drop_suffix _ _)).isInfix)
  obtain ⟨i, hi⟩ := List.mem_iff_getElem?.1 hx
  obtain ⟨j, hj⟩ := List.mem_iff_getElem?.1 hy
  by_cases e : i = j
  · subst e
    obtain rfl : x = y := Option.some.inj (hi.symm.trans hj)
    have := q.length_le
    have h0 : 0 < (bl x.1).length := List.length_pos_iff.2 (hne x hx)
    simp at this
    omega
  · have := pw_at (fun _ _ q => ⟨q.2, q.1⟩) ha.2 (i := i) (j := j) (x := x.1) (y := y.1) (by rw [List.getElem?_map, hi]; rfl) (by rw [List.getElem?_map, hj]; rfl) e
    exact this.2 hinf
/-- Search: in order, the last that is not behind a text is the only one with which it may begin. -/
theorem hit_last {C : List Pai} (hs : Sd C) (hp : PF C) {t : Bts} {n : Nat} {x : Pai} (hx : C[n]? = some x) (h1 : Le (bl x.1) t) (h2 : ∀ (i : Nat) (y : Pai), n < i → C[i]? = some y → ¬ Le (bl y.1) t) : hit C t = if (bl x.1).isPrefixOf t then some x else none := by
  split
  · rename_i q
    exact hit_of hp (List.mem_of_getElem? hx) (List.isPrefixOf_iff_prefix.1 q)
  · rename_i q
    refine hit_none.2 fun y hy hpre => ?_
    obtain ⟨j, hj⟩ := List.mem_iff_getElem?.1 hy
    by_cases e : j = n
    · subst e
      obtain rfl : x = y := Option.some.inj (hx.symm.trans hj)
      exact q (List.isPrefixOf_iff_prefix.2 hpre)
    · by_cases e2 : n < j
      · exact h2 j y e2 hj (pre_le hpre)
      · have := pw_at (fun _ _ q => ⟨q.2, q.1⟩) hp hj hx e
        exact this.1 (pre_mid (hs j n y x (by omega) hj hx) h1 hpre)
theorem cnt_mono (p : Nat → Bool) : ∀ n, (∀ a b, a ≤ b → b < n → p a = true → p b = true) → (List.range n).countP (fun i => !p i) ≤ n ∧ (∀ i, i < (List.range n).countP (fun i => !p i) → p i = false) ∧ (∀ i, (List.range n).countP (fun i => !p i) ≤ i → i < n → p i = true)
  | 0, _ => by simp
  | n + 1, h => by
    obtain ⟨i1, i2, i3⟩ := cnt_mono p n (fun a b q1 q2 => h a b q1 (by omega))
    rw [List.range_succ, List.countP_append]
    cases hq : p n with
    | true =>
      have e : List.countP (fun i => !p i) [n] = 0 := by simp [hq]
      rw [e, Nat.add_zero]
      refine ⟨by omega, i2, fun i a b => ?_⟩
      by_cases e : i = n
      · rw [e]; exact hq
      · exact i3 i a (by omega)
    | false =>
      have e : List.countP (fun i => !p i) [n] = 1 := by simp [hq]
      have hall : ∀ i, i < n + 1 → p i = false := fun i hi => by
        cases hp : p i with
        | false => rfl
        | true => rw [h i n (by omega) (by omega) hp] at hq; cases hq
      have en : (List.range n).countP (fun i => !p i) = n := by
        have : (List.range n).countP (fun i => !p i) = (List.range n).length := List.countP_eq_length.2 fun i hi => by
          rw [hall i (by have := List.mem_range.1 hi; omega)]; rfl
        rw [this, List.length_range]
      rw [e, en]
      exact ⟨Nat.le_refl _, hall, fun i a b => by omega⟩
/-- A text with its changes made. -/
def sw (C : List Pai) : Nat → Bts → Bts
  | 0, _ => []
  | _ + 1, [] => []
  | n + 1, c :: r => match hit C (c :: r) with
    | some x => bl x.2 ++ sw C n ((c :: r).drop (bl x.1).length)
    | none => c :: sw C n r
theorem sw_fuel {C : List Pai} (h : NE C) : ∀ (n m : Nat) (s : Bts), s.length ≤ n → s.length ≤ m → sw C n s = sw C m s
  | 0, 0, _, _, _ => rfl
  | 0, _ + 1, [], _, _ => rfl
  | 0, _ + 1, _ :: _, h1, _ => by simp at h1
  | _ + 1, 0, [], _, _ => rfl
  | _ + 1, 0, _ :: _, _, h2 => by simp at h2
  | _ + 1, _ + 1, [], _, _ => rfl
  | n + 1, m + 1, c :: r, h1, h2 => by
    unfold sw
    split
    · rename_i x hx
      have h0 : 0 < (bl x.1).length := List.length_pos_iff.2 (h x (hit_some hx).1)
      rw [sw_fuel h n m _ (by simp at h1 ⊢; omega) (by simp at h2 ⊢; omega)]
    · rw [sw_fuel h n m r (by simpa using h1) (by simpa using h2)]
def SW (C : List Pai) (s : Bts) : Bts := sw C s.length s
theorem SW_nil (C : List Pai) : SW C [] = [] := rfl
theorem SW_hit {C : List Pai} (h : NE C) {s : Bts} {x : Pai} (hx : hit C s = some x) : SW C s = bl x.2 ++ SW C (s.drop (bl x.1).length) := by
  cases s with
  | nil => rw [hit_nil h] at hx; cases hx
  | cons c r =>
    have h0 : 0 < (bl x.1).length := List.length_pos_iff.2 (h x (hit_some hx).1)
    unfold SW
    rw [List.length_cons]
    conv => lhs; unfold sw
    rw [hx]
    simp only
    rw [sw_fuel h r.length _ _ (by simp; omega) (Nat.le_refl _)]
theorem SW_miss {C : List Pai} (_ : NE C) {c : UInt8} {r : Bts} (hx : hit C (c :: r) = none) : SW C (c :: r) = c :: SW C r := by
  unfold SW
  rw [List.length_cons]
  conv => lhs; unfold sw
  rw [hx]
theorem SW_skip {C : List Pai} (h : NE C) : ∀ (a : Nat) (s : Bts), a ≤ s.length → (∀ k, k < a → hit C (s.drop k) = none) → SW C s = s.take a ++ SW C (s.drop a)
  | 0, s, _, _ => by simp
  | a + 1, [], hl, _ => by simp at hl
  | a + 1, c :: r, hl, hn => by
    have ih := SW_skip h a r (by simpa using hl) (fun k hk => by have := hn (k + 1) (by omega); simpa using this)
    rw [SW_miss h (by have := hn 0 (by omega); simpa using this), ih]
    simp
theorem SW_all {C : List Pai} (h : NE C) {s : Bts} (hn : ∀ k, hit C (s.drop k) = none) : SW C s = s := by
  rw [SW_skip h s.length s (Nat.le_refl _) (fun k _ => hn k)]
  simp [SW_nil]
theorem sw_len {C : List Pai} {M : Nat} (hM : 1 ≤ M) (h : NE C) (ht : ∀ x ∈ C, (bl x.2).length ≤ M) : ∀ (n : Nat) (s : Bts), s.length ≤ n → (SW C s).length ≤ s.length * M
  | _, [], _ => by simp [SW_nil]
  | 0, _ :: _, hl => by simp at hl
  | n + 1, c :: r, hl => by
    cases hq : hit C (c :: r) with
    | none =>
      have ih := sw_len hM h ht n r (by simpa using hl)
      rw [SW_miss h hq, List.length_cons, List.length_cons, Nat.add_mul]
      omega
    | some x =>
      have h0 : 0 < (bl x.1).length := List.length_pos_iff.2 (h x (hit_some hq).1)
      have hp := (hit_some hq).2.length_le
      have ih := sw_len hM h ht n ((c :: r).drop (bl x.1).length) (by simp at hl ⊢; omega)
      have h2 := ht x (hit_some hq).1
      rw [SW_hit h hq, List.length_append]
      rw [List.length_drop] at ih
      have e : (c :: r).length * M = ((c :: r).length - (bl x.1).length) * M + (bl x.1).length * M := by rw [← Nat.add_mul, Nat.sub_add_cancel hp]
      have : M ≤ (bl x.1).length * M := Nat.le_mul_of_pos_left M h0
      omega
theorem SW_perm {C C' : List Pai} (h : C.Perm C') (hp : PF C) : ∀ (n : Nat) (s : Bts), sw C n s = sw C' n s
  | 0, _ => rfl
  | _ + 1, [] => rfl
  | n + 1, c :: r => by
    unfold sw
    rw [← hit_perm h hp]
    cases hit C (c :: r) with
    | none => simp only; rw [SW_perm h hp n r]
    | some x => simp only; rw [SW_perm h hp n _]
/-- The text itself. -/
def swS (C : List Pai) (s : S) : S := ⟨(SW C (bl s)).toArray⟩
theorem bl_swS (C : List Pai) (s : S) : bl (swS C s) = SW C (bl s) := by simp [bl, swS]
theorem swS_perm {C C' : List Pai} (h : C.Perm C') (hp : PF C) (s : S) : swS C s = swS C' s := bl_inj (by rw [bl_swS, bl_swS]; exact SW_perm h hp _ _)
end Go.Proofs.YtceclpabdfncoaaDoor.Re

/- Recipes as they lie; equal. -/
namespace Go.Proofs.YtceclpabdfncoaaDoor.Re
open Go.RowKit
/-- A recipe. -/
structure Rcp where
  o : List Out
  n : List (S × List S)
  s : List S
  sys : S
  bld : S
  a : List S
  e : List Pai
def nR (x : S × List S) (u : Value) : Array Value := #[.string x.1, u]
/-- A list of inputs as it lies: us are their own lists. -/
def In (W : World) (v : Value) (l : List (S × List S)) : Prop := ∃ us : List Value, us.length = l.length ∧ Ls W v 2 (List.zipWith nR l us) ∧ ∀ (i : Nat) x u, l[i]? = some x → us[i]? = some u → Ls W u 1 (x.2.map sR)
theorem In.below {W W' : World} {v : Value} {l : List (S × List S)} (h : In W v l) (hb : Below W.heap.size W W') : In W' v l := by
  obtain ⟨us, h1, h2, h3⟩ := h
  exact ⟨us, h1, h2.below hb, fun i x u q1 q2 => (h3 i x u q1 q2).below hb⟩
def rV (o n s : Value) (sys bld : S) (a e : Value) : Array Value := #[o, n, s, .string sys, .string bld, a, e]
/-- A recipe as it lies. -/
structure Rc (W : World) (o n s a e : Value) (R : Rcp) : Prop where
  o : Ls W o 4 (R.o.map oR)
  n : In W n R.n
  s : Ls W s 1 (R.s.map sR)
  a : Ls W a 1 (R.a.map sR)
  e : Ls W e 2 (R.e.map eR)
theorem Rc.below {W W' : World} {o n s a e : Value} {R : Rcp} (h : Rc W o n s a e R) (hb : Below W.heap.size W W') : Rc W' o n s a e R := ⟨h.o.below hb, h.n.below hb, h.s.below hb, h.a.below hb, h.e.below hb⟩
/-- A recipe that is not too long. -/
def Sm (R : Rcp) : Prop := R.o.length ≤ 10000000 ∧ R.n.length ≤ 10000000 ∧ R.s.length ≤ 10000000 ∧ R.a.length ≤ 10000000 ∧ R.e.length ≤ 10000000 ∧ ∀ x ∈ R.n, x.2.length ≤ 10000000
theorem Ls.form {W : World} {v : Value} {sz : Nat} {l : List (Array Value)} (h : Ls W v sz l) : ∃ oa cap, v = .slice oa l.length cap := by
  obtain ⟨oa, cap, h, -⟩ := h
  exact ⟨oa, cap, h⟩
theorem Ls.at {W : World} {oa : Option Addr} {n cap sz : Nat} {l : List (Array Value)} (h : Ls W (.slice oa n cap) sz l) (i : Nat) (c : Array Value) (hc : l[i]? = some c) : ∃ g o, oa = some ⟨g, o, none⟩ ∧ g < W.heap.size ∧ W.rangeAt g (o + i * sz) c.toList := by
  obtain ⟨oa', cap', e, -, -, -, -, h⟩ := h
  injection e with e1 e2 e3
  subst e1
  exact h i c hc
def ldO (p : Value) : Sem Value := Instr.loadAt 48 p
theorem toLdO (p : Value) : Instr.loadAt 48 p = ldO p := rfl
def ldP (p : Value) : Sem Value := Instr.loadAt 50 p
theorem toLdP (p : Value) : Instr.loadAt 50 p = ldP p := rfl
def ldI (p : Value) : Sem Value := Instr.loadAt 45 p
theorem toLdI (p : Value) : Instr.loadAt 45 p = ldI p := rfl
def ldR (p : Value) : Sem Value := Instr.loadAt 33 p
theorem toLdR (p : Value) : Instr.loadAt 33 p = ldR p := rfl
theorem sizeO : (Tryd.prog.info? 48).map (·.size) = some 4 := by kernel_rfl
theorem sizeP : (Tryd.prog.info? 50).map (·.size) = some 2 := by kernel_rfl
theorem sizeI : (Tryd.prog.info? 45).map (·.size) = some 2 := by kernel_rfl
theorem sizeR : (Tryd.prog.info? 33).map (·.size) = some 7 := by kernel_rfl
theorem ld_O (w : World) (g o : Nat) (c : Array Value) (hc : c.size = 4) (h : w.rangeAt g o c.toList) : (ldO (.pointer (some ⟨g, o, none⟩))).run Tryd.prog w = .ok (.agg c) w := by
  have := run_loadAt_mid (P := Tryd.prog) w g o 48 c.toList _ h Tryd.underlying48 rfl (by rw [sizeO]; simp [hc])
  simpa [ldO] using this
theorem ld_P (w : World) (g o : Nat) (c : Array Value) (hc : c.size = 2) (h : w.rangeAt g o c.toList) : (ldP (.pointer (some ⟨g, o, none⟩))).run Tryd.prog w = .ok (.agg c) w := by
  have := run_loadAt_mid (P := Tryd.prog) w g o 50 c.toList _ h Tryd.underlying50 rfl (by rw [sizeP]; simp [hc])
  simpa [ldP] using this
theorem ld_I (w : World) (g o : Nat) (c : Array Value) (hc : c.size = 2) (h : w.rangeAt g o c.toList) : (ldI (.pointer (some ⟨g, o, none⟩))).run Tryd.prog w = .ok (.agg c) w := by
  have := run_loadAt_mid (P := Tryd.prog) w g o 45 c.toList _ h Tryd.underlying45 rfl (by rw [sizeI]; simp [hc])
  simpa [ldI] using this
theorem ld_R (w : World) (g : Nat) (c : Array Value) (hc : c.size = 7) (h : w.heap[g]? = some (.cells c 33 (0, 0))) : (ldR (.pointer (some ⟨g, 0, none⟩))).run Tryd.prog w = .ok (.agg c) w := by
  have h2 := World.rangeAt_of_block h 0 7
  rw [show c.extract 0 (0 + 7) = c by rw [← hc, Nat.zero_add]; simp] at h2
  have := run_loadAt_mid (P := Tryd.prog) w g 0 33 c.toList _ h2 Tryd.underlying33 rfl (by rw [sizeR]; simp [hc])
  simpa [ldR] using this
theorem row2 (W : World) (a b : Obj) : ((W.alloc a).alloc b).heap[W.heap.size]? = some a := (heap_alloc_old _ _ (h := by simp)).trans (heap_alloc_new _ _)
theorem row2n (W : World) (a b : Obj) : ((W.alloc a).alloc b).heap[W.heap.size + 1]? = some b := by
  have := heap_alloc_new (W.alloc a) b
  simpa using this
theorem below2 (W : World) (a b : Obj) : Below W.heap.size W ((W.alloc a).alloc b) := ((Below.refl _ W).alloc (Nat.le_refl _) a).alloc (by simp) b
theorem c1 {w : World} {g : Nat} {c : Array Value} {t : Nat} (h : w.heap[g]? = some (.cells c t (0, 0))) {i : Nat} {u : Value} (hu : c[i]? = some u) : w.cell? ⟨g, i, none⟩ = some u := by
  rw [cell_of_row _ _ _ _ _ _ h]
  exact hu
/-- Two recipes in boxes. -/
structure Eb (W : World) (R : Rcp) (o n s a e o' n' s' a' e' : Value) (wr : World) : Prop where
  bel : Below W.heap.size W wr
  r0 : wr.heap[W.heap.size]? = some (.cells (rV o n s R.sys R.bld a e) 33 (0, 0))
  r1 : wr.heap[W.heap.size + 1]? = some (.cells (rV o' n' s' R.sys R.bld a' e') 33 (0, 0))
theorem Eb.drew {W : World} {R : Rcp} {o n s a e o' n' s' a' e' : Value} {wr : World} (h : Eb W R o n s a e o' n' s' a' e' wr) (k : Nat) : Eb W R o n s a e o' n' s' a' e' (wr.drewN k) := ⟨⟨h.bel.os, h.bel.tape, h.bel.output, h.bel.size, h.bel.block⟩, h.r0, h.r1⟩
section
attribute [local go_sem ↓] toLdO toLdP
end
end Go.Proofs.YtceclpabdfncoaaDoor.Re

/- Recipes: the room; in. -/
namespace Go.Proofs.YtceclpabdfncoaaDoor.Re
open Go.RowKit
def slO (v : Value) (lo hi mx : Option Value) : Sem Value := Instr.slice 29 v lo hi mx
theorem toSlO (v : Value) (lo hi mx : Option Value) : Instr.slice 29 v lo hi mx = slO v lo hi mx := rfl
set_option maxRecDepth 100000 in
theorem run_slO (w : World) (oa : Option Addr) (n c h : Nat) (hh : h ≤ c) : (slO (.slice oa n c) none (some (.int .i64 (h : Int))) none).run Tryd.prog w = .ok (.slice oa h c) w := by
  have := run_slice_h (P := Tryd.prog) w 29 oa n c Tryd.underlying29 .i64 (h : Int) (by omega) (by omega)
  obtain ⟨i0, hi0, -, -, -⟩ := info_parts infoO
  have e : ∀ s, oa.map (fun a => a.add (0 * s)) = oa := fun s => by
    rw [Nat.zero_mul]
    cases oa with
    | none => rfl
    | some a => obtain ⟨b, o, s⟩ := a; rfl
  have el : Tryd.prog.elem 29 = 48 := by kernel_rfl
  have hs : (sizeOf 48).run Tryd.prog w = .ok i0.size w := by simp [sizeOf, typeInfo, hi0]
  unfold slO
  rw [this, el, hs]
  simp only [Result.andThen, sliced, Int.toNat_natCast, e, Nat.sub_zero, ite_self]
def slI (v : Value) (lo hi mx : Option Value) : Sem Value := Instr.slice 30 v lo hi mx
theorem toSlI (v : Value) (lo hi mx : Option Value) : Instr.slice 30 v lo hi mx = slI v lo hi mx := rfl
set_option maxRecDepth 100000 in
theorem run_slI (w : World) (oa : Option Addr) (n c h : Nat) (hh : h ≤ c) : (slI (.slice oa n c) none (some (.int .i64 (h : Int))) none).run Tryd.prog w = .ok (.slice oa h c) w := by
  have := run_slice_h (P := Tryd.prog) w 30 oa n c Tryd.underlying30 .i64 (h : Int) (by omega) (by omega)
  obtain ⟨i0, hi0, -, -, -⟩ := info_parts infoI
  have e : ∀ s, oa.map (fun a => a.add (0 * s)) = oa := fun s => by
    rw [Nat.zero_mul]
    cases oa with
    | none => rfl
    | some a => obtain ⟨b, o, s⟩ := a; rfl
  have el : Tryd.prog.elem 30 = 45 := by kernel_rfl
  have hs : (sizeOf 45).run Tryd.prog w = .ok i0.size w := by simp [sizeOf, typeInfo, hi0]
  unfold slI
  rw [this, el, hs]
  simp only [Result.andThen, sliced, Int.toNat_natCast, e, Nat.sub_zero, ite_self]
def slS (v : Value) (lo hi mx : Option Value) : Sem Value := Instr.slice 22 v lo hi mx
theorem toSlS (v : Value) (lo hi mx : Option Value) : Instr.slice 22 v lo hi mx = slS v lo hi mx := rfl
set_option maxRecDepth 100000 in
theorem run_slS (w : World) (oa : Option Addr) (n c h : Nat) (hh : h ≤ c) : (slS (.slice oa n c) none (some (.int .i64 (h : Int))) none).run Tryd.prog w = .ok (.slice oa h c) w := by
  have := run_slice_h (P := Tryd.prog) w 22 oa n c Tryd.underlying22 .i64 (h : Int) (by omega) (by omega)
  obtain ⟨i0, hi0, -, -, -⟩ := info_parts infoS
  have e : ∀ s, oa.map (fun a => a.add (0 * s)) = oa := fun s => by
    rw [Nat.zero_mul]
    cases oa with
    | none => rfl
    | some a => obtain ⟨b, o, s⟩ := a; rfl
  have el : Tryd.prog.elem 22 = 9 := by kernel_rfl
  have hs : (sizeOf 9).run Tryd.prog w = .ok i0.size w := by simp [sizeOf, typeInfo, hi0]
  unfold slS
  rw [this, el, hs]
  simp only [Result.andThen, sliced, Int.toNat_natCast, e, Nat.sub_zero, ite_self]
def slP (v : Value) (lo hi mx : Option Value) : Sem Value := Instr.slice 31 v lo hi mx
theorem toSlP (v : Value) (lo hi mx : Option Value) : Instr.slice 31 v lo hi mx = slP v lo hi mx := rfl
set_option maxRecDepth 100000 in
theorem run_slP (w : World) (oa : Option Addr) (n c h : Nat) (hh : h ≤ c) : (slP (.slice oa n c) none (some (.int .i64 (h : Int))) none).run Tryd.prog w = .ok (.slice oa h c) w := by
  have := run_slice_h (P := Tryd.prog) w 31 oa n c Tryd.underlying31 .i64 (h : Int) (by omega) (by omega)
  obtain ⟨i0, hi0, -, -, -⟩ := info_parts infoP
  have e : ∀ s, oa.map (fun a => a.add (0 * s)) = oa := fun s => by
    rw [Nat.zero_mul]
    cases oa with
    | none => rfl
    | some a => obtain ⟨b, o, s⟩ := a; rfl
  have el : Tryd.prog.elem 31 = 50 := by kernel_rfl
  have hs : (sizeOf 50).run Tryd.prog w = .ok i0.size w := by simp [sizeOf, typeInfo, hi0]
  unfold slP
  rw [this, el, hs]
  simp only [Result.andThen, sliced, Int.toNat_natCast, e, Nat.sub_zero, ite_self]
theorem below_dr {b : Nat} {W w : World} (h : Below b W w) : Below b W w.drew := ⟨h.os, h.tape, h.output, h.size, h.block⟩
def rmV (o n s a e l : Value) : Array Value := #[o, n, s, a, e, l]
theorem results_R {fn : Func} {p : Tmp} (h : fn.results = #[.cell p 33]) (tmps : Array Value) (w : World) (g : Nat) (C : Array Value) (hC : C.size = 7)
    (hp : tmps.getD p undef = .pointer (some ⟨g, 0, none⟩)) (hg : w.heap[g]? = some (.cells C 33 (0, 0))) :
    (results fn tmps).run Tryd.prog w = .ok (.agg C) w := by
  have hp' : tmps[p]?.getD undef = .pointer (some ⟨g, 0, none⟩) := by simpa using hp
  simp [results, h, hp', asAddr, run_loadVar_row w g 33 33 C (0, 0) _ hg Tryd.underlying33 rfl (by rw [sizeR, hC])]
section
attribute [local go_sem ↓] toSlO toSlI toSlS toSlP
end
end Go.Proofs.YtceclpabdfncoaaDoor.Re

/- Recipes: the room's lists. -/
namespace Go.Proofs.YtceclpabdfncoaaDoor.Re
open Go.RowKit
theorem Ol.tag {base e sz : Nat} {W : World} {v : Value} {l : List (Array Value)} (h : Ol base e sz W v l) {g : Nat} (hg : v.ownBlock = some g) : base ≤ g ∧ g < W.heap.size ∧ ∃ cur, W.heap[g]? = some (.cells cur e (0, 0)) := by
  rcases h.1.2 with ⟨h1, _⟩ | ⟨g', cap, cur, h1, h2, h3, _⟩
  · rw [h1] at hg; cases hg
  · rw [h1] at hg
    obtain rfl : g' = g := by simpa [Value.ownBlock] using hg
    exact ⟨h2, (Array.getElem?_eq_some_iff.1 h3).1, _, h3⟩
theorem Ol.keep {base e sz : Nat} {W W' : World} {v : Value} {l : List (Array Value)} (h : Ol base e sz W v l) (hb : ∀ g, v.ownBlock = some g → W'.heap[g]? = W.heap[g]?) : Ol base e sz W' v l := by
  refine ⟨?_, h.2⟩
  obtain ⟨h0, h1⟩ := h.1
  refine ⟨h0, ?_⟩
  rcases h1 with h1 | ⟨g, cap, cur, rfl, hB, hg, hr⟩
  · exact .inl h1
  · exact .inr ⟨g, cap, cur, rfl, hB, (hb g rfl).trans hg, hr⟩
theorem Ol.below {base e sz : Nat} {W W' : World} {v : Value} {l : List (Array Value)} (h : Ol base e sz W v l) (hb : Below W.heap.size W W') : Ol base e sz W' v l := h.keep fun g hg => hb.block g (h.tag hg).2.1
theorem Ol.mono {base base' e sz : Nat} {W : World} {v : Value} {l : List (Array Value)} (h : Ol base e sz W v l) (hb : base' ≤ base) : Ol base' e sz W v l := by
  refine ⟨?_, h.2⟩
  obtain ⟨h0, h1⟩ := h.1
  refine ⟨h0, ?_⟩
  rcases h1 with h1 | ⟨g, cap, cur, rfl, hB, hg, hr⟩
  · exact .inl h1
  · exact .inr ⟨g, cap, cur, rfl, Nat.le_trans hb hB, hg, hr⟩
theorem Ol.form {base e sz : Nat} {W : World} {v : Value} {l : List (Array Value)} (h : Ol base e sz W v l) : ∃ a c, v = .slice a l.length c ∧ l.length ≤ c := by
  rcases h.1.2 with ⟨h1, h2⟩ | ⟨g, cap, cur, h1, _, _, h2, _⟩
  · exact ⟨none, 0, by rw [h1, h2], by omega⟩
  · exact ⟨_, cap, h1, h2⟩
theorem tag_ne {W : World} {g h : Nat} {C D : Array Value} {s t : Nat} (h1 : W.heap[g]? = some (.cells C s (0, 0))) (h2 : W.heap[h]? = some (.cells D t (0, 0))) (hst : s ≠ t) : g ≠ h := fun e => by
  subst e
  have := h1.symm.trans h2
  injection this with e1
  injection e1 with e1 e2
  exact hst e2
/-- A list of another kind stays where one grows. -/
theorem Ol.grown {base base' e e' sz sz' : Nat} {W W' : World} {v v' : Value} {l l' : List (Array Value)} (h : Ol base e sz W v l) (h' : Ol base' e' sz' W v' l') (hg : W.grownBy W' v'.ownBlock) (he : e ≠ e') : Ol base e sz W' v l := h.keep fun g hv => by
  obtain ⟨_, hlt, cur, hc⟩ := h.tag hv
  refine hg.block g hlt fun q => ?_
  obtain ⟨_, _, cur', hc'⟩ := h'.tag q.symm
  exact tag_ne hc hc' he rfl
def PEE : Pai := (BEH, ⟨#[]⟩)
def ONE : Out := (BEH, ⟨#[]⟩, ⟨#[]⟩, ⟨#[]⟩)
/-- The room's lists. -/
structure Rl (base : Nat) (W : World) (o n s a e l : Value) (us ls : List Value) (R : Rcp) : Prop where
  fo : Ol base 48 4 W o ((R.o ++ [ONE]).map oR)
  fn : Ol base 45 2 W n (List.zipWith nR R.n us ++ [nR (BEH, []) (.slice none 0 0)])
  fs : Ol base 9 1 W s ((R.s ++ [BEH]).map sR)
  fa : Ol base 9 1 W a ((R.a ++ [BEH]).map sR)
  fe : Ol base 50 2 W e ((R.e ++ [PEE]).map eR)
  fl : Ol base 22 1 W l (ls.map fun v => #[v])
  ul : us.length = R.n.length
  ll : ls.length = R.n.length
  each : ∀ (i : Nat) x u v, R.n[i]? = some x → us[i]? = some u → ls[i]? = some v → (∃ oa c, v = .slice oa (x.2.length + 1) c ∧ u = .slice oa x.2.length c ∧ x.2.length ≤ c) ∧ Ol base 9 1 W v ((x.2 ++ [BEH]).map sR)
  sep : ∃ b1 b2, (∀ (i : Nat) v g, ls[i]? = some v → v.ownBlock = some g → g < b1) ∧ (∀ g, s.ownBlock = some g → b1 ≤ g ∧ g < b2) ∧ (∀ g, a.ownBlock = some g → b2 ≤ g)
theorem Rl.below {base : Nat} {W W' : World} {o n s a e l : Value} {us ls : List Value} {R : Rcp} (h : Rl base W o n s a e l us ls R) (hb : Below W.heap.size W W') : Rl base W' o n s a e l us ls R := ⟨h.fo.below hb, h.fn.below hb, h.fs.below hb, h.fa.below hb, h.fe.below hb, h.fl.below hb, h.ul, h.ll, fun i x u v q1 q2 q3 => ⟨(h.each i x u v q1 q2 q3).1, (h.each i x u v q1 q2 q3).2.below hb⟩, h.sep⟩
/-- A list's beginning. -/
theorem Ls.cut {W : World} {oa : Option Addr} {n c sz : Nat} {l : List (Array Value)} (h : Ls W (.slice oa n c) sz l) (k : Nat) (hk : k ≤ l.length) : Ls W (.slice oa k c) sz (l.take k) := by
  obtain ⟨oa', c', e, h1, h2, h3, h4, h5⟩ := h
  injection e with e1 e2 e3
  subst e1 e3
  have hl : (l.take k).length = k := by rw [List.length_take]; omega
  refine ⟨oa, c, by rw [hl], h1, by rw [hl]; omega, h3, fun d hd => h4 d (List.mem_of_mem_take hd), fun i d hd => h5 i d ?_⟩
  have hi : i < k := by have := (List.getElem?_eq_some_iff.1 hd).1; omega
  rwa [List.getElem?_take_of_lt hi] at hd
theorem take_map_app {A B : Type} (f : A → B) (l : List A) (x : A) : ((l ++ [x]).map f).take l.length = l.map f := by
  rw [List.map_append]
  simp
/-- The recipe in the room. -/
theorem Rl.rc {base : Nat} {W : World} {o n s a e l : Value} {us ls : List Value} {R : Rcp} (h : Rl base W o n s a e l us ls R) : ∃ xo xn xs xa xe co cn cs ca ce, o = .slice xo (R.o.length + 1) co ∧ n = .slice xn (R.n.length + 1) cn ∧ s = .slice xs (R.s.length + 1) cs ∧ a = .slice xa (R.a.length + 1) ca ∧ e = .slice xe (R.e.length + 1) ce ∧ R.o.length ≤ co ∧ R.n.length ≤ cn ∧ R.s.length ≤ cs ∧ R.a.length ≤ ca ∧ R.e.length ≤ ce ∧ Rc W (.slice xo R.o.length co) (.slice xn R.n.length cn) (.slice xs R.s.length cs) (.slice xa R.a.length ca) (.slice xe R.e.length ce) R := by
  obtain ⟨xo, co, fo, ko⟩ := h.fo.form
  obtain ⟨xn, cn, fn, kn⟩ := h.fn.form
  obtain ⟨xs, cs, fs, ks⟩ := h.fs.form
  obtain ⟨xa, ca, fa, ka⟩ := h.fa.form
  obtain ⟨xe, ce, fe, ke⟩ := h.fe.form
  have zl : (List.zipWith nR R.n us).length = R.n.length := by rw [List.length_zipWith, h.ul, Nat.min_self]
  have lo : ((R.o ++ [ONE]).map oR).length = R.o.length + 1 := by simp
  have ln : (List.zipWith nR R.n us ++ [nR (BEH, []) (.slice none 0 0)]).length = R.n.length + 1 := by rw [List.length_append, zl]; rfl
  have ls' : ((R.s ++ [BEH]).map sR).length = R.s.length + 1 := by simp
  have la : ((R.a ++ [BEH]).map sR).length = R.a.length + 1 := by simp
  have le : ((R.e ++ [PEE]).map eR).length = R.e.length + 1 := by simp
  rw [lo] at fo ko
  rw [ln] at fn kn
  rw [ls'] at fs ks
  rw [la] at fa ka
  rw [le] at fe ke
  have qo := h.fo.ls
  have qn := h.fn.ls
  have qs := h.fs.ls
  have qa := h.fa.ls
  have qe := h.fe.ls
  rw [fo] at qo
  rw [fn] at qn
  rw [fs] at qs
  rw [fa] at qa
  rw [fe] at qe
  have ro := qo.cut R.o.length (by omega)
  have rn := qn.cut R.n.length (by omega)
  have rs := qs.cut R.s.length (by omega)
  have ra := qa.cut R.a.length (by omega)
  have re := qe.cut R.e.length (by omega)
  rw [take_map_app] at ro rs ra re
  rw [List.take_append_of_le_length (by omega), List.take_of_length_le (by omega)] at rn
  refine ⟨xo, xn, xs, xa, xe, co, cn, cs, ca, ce, fo, fn, fs, fa, fe, by omega, by omega, by omega, by omega, by omega, ro, ⟨us, h.ul, rn, fun i x u q1 q2 => ?_⟩, rs, ra, re⟩
  have hi : i < R.n.length := (List.getElem?_eq_some_iff.1 q1).1
  obtain ⟨v, hv⟩ : ∃ v, ls[i]? = some v := ⟨_, List.getElem?_eq_getElem (by rw [h.ll]; exact hi)⟩
  obtain ⟨⟨oa, c, e1, e2, -⟩, ho⟩ := h.each i x u v q1 q2 hv
  have hq := ho.ls
  rw [e1] at hq
  have := hq.cut x.2.length (by simp)
  rw [take_map_app] at this
  rw [e2]
  exact this
end Go.Proofs.YtceclpabdfncoaaDoor.Re
