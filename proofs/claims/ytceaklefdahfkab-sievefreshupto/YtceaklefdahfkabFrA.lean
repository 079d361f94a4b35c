/- SieveFresh: lists of one's own. -/
import Derived.Laws.AppendOwn
import Derived.Lib.AppendZerosOnto
namespace Go.Proofs.Ytceaklefdahfkab
/-- The block that a list lies in, if it has room for anything. -/
def bk : Value → Option Nat
  | .slice (some a) _ (_ + 1) => some a.block
  | _ => none
/-- A list of one's own: nothing, or the beginning of a block that lies at or behind B. -/
def Ow (B : Nat) (e : TypeId) (sz : Nat) (v : Value) (n : Nat) (xs : List Value) (w : World) : Prop :=
  xs.length = n * sz ∧ ((n = 0 ∧ ∃ o, v = .slice o 0 0 ∧ ∀ a, o = some a → a.spot = none ∧ a.block < w.heap.size) ∨ ∃ g cap cur, v = .slice (some ⟨g, 0, none⟩) n (cap + 1) ∧ B ≤ g ∧ w.heap[g]? = some (.cells cur e (0, 0)) ∧ n ≤ cap + 1 ∧ cap + 1 ≤ maxLen ∧ (cap + 1) * sz ≤ cur.size ∧ cur.toList.take (n * sz) = xs)
theorem own_ow {w : World} {B e sz n : Nat} {v : Value} {xs : List Value} (h : w.ownsRow B e sz v n xs) : Ow B e sz v n xs w := by
  refine ⟨h.1, ?_⟩
  rcases h.2 with ⟨rfl, hn⟩ | ⟨g, cap, cur, rfl, hb, hg, h1, h2, h3, h4⟩
  · exact .inl ⟨hn, none, rfl, fun a e => by cases e⟩
  · cases cap with
    | zero => exact .inl ⟨by omega, _, by rw [show n = 0 by omega], fun a e => by cases e; exact ⟨rfl, (Array.getElem?_eq_some_iff.1 hg).1⟩⟩
    | succ cap => exact .inr ⟨g, cap, cur, rfl, hb, hg, h1, h2, by rw [h3]; exact Nat.le_refl _, h4⟩
theorem Ow.mono {w : World} {B B' e sz n : Nat} {v : Value} {xs : List Value} (h : Ow B e sz v n xs w) (hB : B' ≤ B) : Ow B' e sz v n xs w := by
  refine ⟨h.1, ?_⟩
  rcases h.2 with h | ⟨g, cap, cur, a, b, c⟩
  · exact .inl h
  · exact .inr ⟨g, cap, cur, a, Nat.le_trans hB b, c⟩
theorem Ow.keep {w w' : World} {B e sz n : Nat} {v : Value} {xs : List Value} (h : Ow B e sz v n xs w) (hs : w.heap.size ≤ w'.heap.size) (hk : ∀ g, bk v = some g → g < w.heap.size → w'.heap[g]? = w.heap[g]?) : Ow B e sz v n xs w' := by
  refine ⟨h.1, ?_⟩
  rcases h.2 with ⟨h1, o, h2, h3⟩ | ⟨g, cap, cur, rfl, b, c, d⟩
  · exact .inl ⟨h1, o, h2, fun a e => ⟨(h3 a e).1, Nat.lt_of_lt_of_le (h3 a e).2 hs⟩⟩
  · exact .inr ⟨g, cap, cur, rfl, b, (hk g rfl (Array.getElem?_eq_some_iff.1 c).1).trans c, d⟩
theorem Ow.blk {w : World} {B e sz n : Nat} {v : Value} {xs : List Value} (h : Ow B e sz v n xs w) : ∀ g, bk v = some g → B ≤ g ∧ g < w.heap.size ∧ ∃ cur, w.heap[g]? = some (.cells cur e (0, 0)) := fun g hg => by
  rcases h.2 with ⟨_, o, rfl, _⟩ | ⟨g', cap, cur, rfl, b, c, _⟩
  · cases o <;> simp [bk] at hg
  · cases hg
    exact ⟨b, (Array.getElem?_eq_some_iff.1 c).1, cur, c⟩
theorem Ow.form {w : World} {B e sz n : Nat} {v : Value} {xs : List Value} (h : Ow B e sz v n xs w) : ∃ o c, v = .slice o n c ∧ n ≤ c ∧ c ≤ maxLen ∧ ∀ k, k < n → ∃ g, o = some ⟨g, 0, none⟩ ∧ bk v = some g := by
  rcases h.2 with ⟨rfl, o, rfl, _⟩ | ⟨g', cap, cur, rfl, b, c, d, f, _⟩
  · exact ⟨o, 0, rfl, Nat.le_refl _, by simp [maxLen], fun k hk => by omega⟩
  · exact ⟨_, _, rfl, d, f, fun k hk => ⟨g', rfl, rfl⟩⟩
/-- A cell of it. -/
theorem Ow.cell {w : World} {B e sz n : Nat} {v : Value} {xs : List Value} (h : Ow B e sz v n xs w) {g : Nat} (hg : bk v = some g) (j : Nat) (u : Value) (hj : xs[j]? = some u) : w.cell? ⟨g, j, none⟩ = some u := by
  rcases h.2 with ⟨_, o, rfl, _⟩ | ⟨g', cap, cur, rfl, b, c, _, _, _, ht⟩
  · cases o <;> simp [bk] at hg
  · cases hg
    rw [cell_of_row w g' j _ _ _ c]
    rw [← ht, List.getElem?_take] at hj
    split at hj
    · simpa using hj
    · cases hj
theorem Ow.frozen {w : World} {B e sz n : Nat} {v : Value} {xs : List Value} (h : Ow B e sz v n xs w) {g : Nat} (hg : bk v = some g) (j : Nat) : w.frozen? ⟨g, j, none⟩ = false := by
  obtain ⟨_, _, cur, hc⟩ := h.blk g hg
  exact frozen_of_row w g j _ _ hc
/-- A cell of it is written over. -/
theorem Ow.set {w : World} {B e sz n : Nat} {v : Value} {xs : List Value} (h : Ow B e sz v n xs w) {g : Nat} (hg : bk v = some g) (j : Nat) (u : Value) : Ow B e sz v n (xs.set j u) (w.setCell ⟨g, j, none⟩ u) := by
  refine ⟨by rw [List.length_set]; exact h.1, ?_⟩
  rcases h.2 with ⟨_, o, rfl, _⟩ | ⟨g', cap, cur, rfl, b, c, h1, h2, h3, ht⟩
  · cases o <;> simp [bk] at hg
  · cases hg
    refine .inr ⟨g', cap, cur.setIfInBounds j u, rfl, b, heap_setCell_same w _ _ _ _ _ c, h1, h2, by simpa using h3, ?_⟩
    rw [Array.toList_setIfInBounds, List.take_set, ht]
theorem Ow.setO {w : World} {B e sz n : Nat} {v : Value} {xs : List Value} (h : Ow B e sz v n xs w) {g : Nat} (hg : bk v ≠ some g) (j : Nat) (u : Value) : Ow B e sz v n xs (w.setCell ⟨g, j, none⟩ u) :=
  h.keep (by simp) fun g' e _ => heap_setCell_other w _ _ _ (fun e' => hg (by rw [e]; exact congrArg some e'))
section
variable {P : Program} (w : World)
/-- Zeros are laid behind a list that has room for them. -/
theorem run_room_zeros (t tn ty e : TypeId) (i : TypeInfo) (z : Value) (kq kn : IntKind) (ht : P.underlying t = some (.slice e)) (htn : P.underlying tn = some (.int kn)) (hi : P.info? e = some i) (hz : i.zero = some z)
    (g sLen sCap : Nat) (cur : Array Value) (hg : w.heap[g]? = some (.cells cur e (0, 0))) (k : Nat) (h0 : 0 < k) (hs : 0 < i.size) (h63 : k ≤ 9223372036854775807) (h48 : k * i.bytes ≤ 281474976710656)
    (h1 : ∀ u ∈ (Builtin.zeroCells z.cells k).toList, u.oneCell' = true) (hroom : sLen + k ≤ sCap) (hfit : sLen * i.size + (Builtin.zeroCells z.cells k).toList.length ≤ cur.size) :
    (Builtin.append_ #[t, tn] ty #[.slice (some ⟨g, 0, none⟩) sLen sCap, .int kq k]).run P w =
      .ok (.slice (some ⟨g, 0, none⟩) (sLen + k) sCap) (w.setRow g (cur.toList.take (sLen * i.size) ++ (Builtin.zeroCells z.cells k).toList ++ cur.toList.drop (sLen * i.size + (Builtin.zeroCells z.cells k).toList.length)).toArray) := by
  have hst := run_storeCells_at P g (sLen * i.size) e (Builtin.zeroCells z.cells k).toList 0 cur w hg (by simpa using hfit) h1
  simp only [Nat.add_zero] at hst
  have hk : k ≠ 0 := by omega
  have hw : IntKind.i64.wrap (k : Int) = k := by rw [IntKind.wrap_i64]; omega
  have h48i : ¬ (281474976710656 < (k : Int) * (i.bytes : Int)) := by
    rw [← Int.natCast_mul]
    omega
  have hneg : ¬ ((k : Int) < 0) := by omega
  have hns : ¬ (k * i.size = 0) := Nat.mul_ne_zero hk (by omega)
  simp [Builtin.append_, run_underlying ht, run_underlying htn, sizeOf, typeInfo, zeroValue, hi, hz, asInt, asIntOf, hw, hroom, hneg, hns, h48i, Addr.add_lit, hst]
/-- Zeros are laid behind a list of one's own: it stands as it stood. -/
theorem ow_zeros (base : Nat) (t tn ty e : TypeId) (i : TypeInfo) (z : Value) (kq kn : IntKind) (size bytes : Nat) (ht : P.underlying t = some (.slice e)) (htn : P.underlying tn = some (.int kn)) (hi : P.info? e = some i) (hz : i.zero = some z)
    (hsize : i.size = size) (hby : i.bytes = bytes) (hzs : z.cells.size = size) (hsz : 0 < size)
    (v : Value) (n : Nat) (xs : List Value) (hown : Ow base e size v n xs w)
    (m : Nat) (h1 : ∀ u ∈ (Builtin.zeroCells z.cells m).toList, u.oneCell' = true) (hm : 0 < m)
    (h63 : n + m ≤ maxLen) (hbytes : (n + m) * bytes ≤ 140737488355328) (hbase : base ≤ w.heap.size) :
    ∃ g' c' w', (Builtin.append_ #[t, tn] ty #[v, .int kq m]).run P w = .ok (.slice (some ⟨g', 0, none⟩) (n + m) c') w' ∧ Ow base e size (.slice (some ⟨g', 0, none⟩) (n + m) c') (n + m) (xs ++ (Builtin.zeroCells z.cells m).toList) w' ∧ Ow base e size v n xs w' ∧ w.grownBy w' (bk v) ∧ (bk v = some g' ∨ w.heap.size ≤ g') ∧ bk (.slice (some ⟨g', 0, none⟩) (n + m) c') = some g' := by
  subst hsize
  subst hby
  obtain ⟨news, hnews⟩ : ∃ news, news = (Builtin.zeroCells z.cells m).toList := ⟨_, rfl⟩
  have hl : news.length = m * i.size := by rw [hnews, Array.length_toList, size_zeroCells, hzs]
  have hsmall : n + m ≤ 9223372036854775807 := by simp only [maxLen] at h63; omega
  have h48 : m * i.bytes ≤ 281474976710656 := by
    have : m * i.bytes ≤ (n + m) * i.bytes := Nat.mul_le_mul_right _ (by omega)
    omega
  have hlen : (xs ++ news).length = (n + m) * i.size := by rw [List.length_append, hown.1, hl, Nat.add_mul]
  have fin : ∀ (old : Nat), old < n + m → ((Builtin.append_ #[t, tn] ty #[v, .int kq m]).run P w = .ok (.slice (some ⟨w.heap.size, 0, none⟩) (n + m) (grownCap w (n + m) old e)) (w.drew.alloc (.cells (xs.toArray ++ Builtin.zeroCells z.cells m ++ Builtin.zeroCells z.cells (grownCap w (n + m) old e - (n + m))) e))) →
      ∃ g' c' w', (Builtin.append_ #[t, tn] ty #[v, .int kq m]).run P w = .ok (.slice (some ⟨g', 0, none⟩) (n + m) c') w' ∧ Ow base e i.size (.slice (some ⟨g', 0, none⟩) (n + m) c') (n + m) (xs ++ news) w' ∧ Ow base e i.size v n xs w' ∧ w.grownBy w' (bk v) ∧ (bk v = some g' ∨ w.heap.size ≤ g') ∧ bk (.slice (some ⟨g', 0, none⟩) (n + m) c') = some g' := fun old ho hr => by
    have hge := grownCap_ge w (n + m) old e
    have hcm : grownCap w (n + m) old e ≤ maxLen := grownCap_le_maxLen w (n + m) old e h63
    refine ⟨_, _, _, hr, own_ow ⟨hlen, .inr ⟨w.heap.size, _, _, rfl, hbase, heap_alloc_new w.drew _, hge, hcm, ?_, ?_⟩⟩, hown.keep (by simp) (fun g _ hz => heap_alloc_old w.drew _ g hz), ⟨rfl, rfl, rfl, by simp, fun k hk _ => heap_alloc_old w.drew _ k hk⟩, .inr (Nat.le_refl _), ?_⟩
    · simp only [Array.size_append, List.size_toArray, size_zeroCells, hzs, hown.1, ← Nat.add_mul]
      congr 1
      omega
    · simp only [Array.toList_append]
      rw [← hnews, ← hlen]
      exact List.take_left
    · cases hq : grownCap w (n + m) old e with
      | zero => omega
      | succ k => rfl
  rw [← hnews]
  rcases hown.2 with ⟨rfl, o, rfl, _⟩ | ⟨g, cap, cur, rfl, hbg, hg, hnc, hcm, hcs, htake⟩
  · have hx : xs = [] := List.eq_nil_of_length_eq_zero (by simpa using hown.1)
    subst hx
    refine fin 0 (by omega) (Lib.run_append_grow_zeros (P := P) w t tn ty e i z kq kn ht htn hi hz o 0 0 [] ?_ m hm hsz (by omega) (by omega) h48 (growslice_fits (by omega) hbytes))
    cases o with
    | none => rfl
    | some b => exact run_firstCells_some (P := P) w.drew i.size 0 b 0 0 [] (by simp) (fun j v h => by simp at h)
  · by_cases hroom : n + m ≤ cap + 1
    · have hfit : n * i.size + news.length ≤ cur.size := by
        have : (n + m) * i.size ≤ (cap + 1) * i.size := Nat.mul_le_mul_right _ hroom
        rw [hl, ← Nat.add_mul]; omega
      have hr := run_room_zeros (P := P) w t tn ty e i z kq kn ht htn hi hz g n (cap + 1) cur hg m hm hsz (by omega) h48 h1 hroom (by rw [← hnews]; exact hfit)
      rw [← hnews] at hr
      have hrow := setRow_heap w g cur (cur.toList.take (n * i.size) ++ news ++ cur.toList.drop (n * i.size + news.length)).toArray e _ hg
      have hsz2 : (cap + 1) * i.size ≤ (cur.toList.take (n * i.size) ++ news ++ cur.toList.drop (n * i.size + news.length)).toArray.size := by
        simp only [List.size_toArray, List.length_append, List.length_take, List.length_drop, Array.length_toList]
        omega
      refine ⟨g, cap + 1, _, hr, ⟨hlen, .inr ⟨g, cap, _, rfl, hbg, hrow, hroom, hcm, hsz2, ?_⟩⟩, ⟨hown.1, .inr ⟨g, cap, _, rfl, hbg, hrow, hnc, hcm, hsz2, ?_⟩⟩, ⟨rfl, rfl, rfl, by simp, fun k _ hk => setRow_other w g k _ (fun e => hk (by simp [bk, e]))⟩, .inl rfl, rfl⟩
      · show List.take _ (List.take _ _ ++ news ++ _) = _
        rw [htake, ← hlen]
        exact List.take_left
      · show List.take _ (List.take _ _ ++ news ++ _) = _
        rw [htake, ← hown.1, List.append_assoc]
        exact List.take_left
    · have holds : ∀ j u, xs[j]? = some u → w.cell? ((⟨g, 0, none⟩ : Addr).add j) = some u := fun j u hu => by
        have hadd : (⟨g, 0, none⟩ : Addr).add j = ⟨g, j, none⟩ := by unfold Addr.add; split <;> simp_all
        rw [hadd]
        exact hown.cell rfl j u hu
      exact fin (cap + 1) (by omega) (Lib.run_append_grow_zeros (P := P) w t tn ty e i z kq kn ht htn hi hz (some ⟨g, 0, none⟩) n (cap + 1) xs (run_firstCells_some (P := P) w.drew i.size n ⟨g, 0, none⟩ n (cap + 1) xs hown.1 (by simpa using holds)) m hm hsz (by omega) (by omega) h48 (growslice_fits (by omega) hbytes))
/-- A copy, in a list of its own. -/
theorem app_nil (t ty e : TypeId) (i : TypeInfo) (z : Value) (size bytes : Nat) (ht : P.underlying t = some (.slice e)) (hi : P.info? e = some i) (hz : i.zero = some z)
    (hsize : i.size = size) (hby : i.bytes = bytes) (hzs : z.cells.size = size) (hsz : 0 < size)
    (o : Option Addr) (n c : Nat) (xs : List Value) (hl : xs.length = n * size) (ho : o = none → n = 0) (hr : ∀ a, o = some a → ∀ j u, xs[j]? = some u → w.cell? (a.add j) = some u) (h1 : ∀ u ∈ xs, u.oneCell' = true)
    (h63 : n ≤ maxLen) (hbytes : n * bytes ≤ 140737488355328) :
    ∃ v' w', (Builtin.append_ #[t, t] ty #[.slice none 0 0, .slice o n c]).run P w = .ok v' w' ∧ w'.ownsRow w.heap.size e size v' n xs ∧ w.grownBy w' none := by
  cases o with
  | none =>
    have hn := ho rfl
    subst hn
    have hx : xs = [] := List.eq_nil_of_length_eq_zero (by simpa using hl)
    subst hx
    refine ⟨.slice none 0 0, w, ?_, World.ownsRow_nil w _ e size, ⟨rfl, rfl, rfl, Nat.le_refl _, fun _ _ _ => rfl⟩⟩
    simp [Builtin.append_, run_underlying ht, sizeOf, typeInfo, hi, Builtin.lenOf, Builtin.firstCells]
  | some a =>
    obtain ⟨v', w', q1, q2, q3, _⟩ := run_append_own (P := P) w w.heap.size t ty e i z size bytes ht hi hz hsize hby hzs hsz (.slice none 0 0) 0 [] (World.ownsRow_nil w _ e size) a n c xs hl (hr a rfl) h1 (by omega) (by rw [Nat.zero_add]; exact hbytes) (Nat.le_refl _)
    rw [Nat.zero_add, List.nil_append] at q2
    exact ⟨v', w', q1, q2, q3⟩
end
end Go.Proofs.Ytceaklefdahfkab
