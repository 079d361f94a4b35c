/- Several texts in one: Gm, Gs, Gt. -/
/- Graphs: mathematics of normed edges. -/
namespace Go.Proofs.Ytgedmfcfhdfoeaa.GM
/-- The edges of a graph in order, none twice. -/
def nrm (N : Nat) (E : List (Nat × Nat)) : List (Nat × Nat) :=
  (List.range N).flatMap fun a => ((List.range N).filter fun b => decide ((a, b) ∈ E)).map fun b => (a, b)
/-- Edges by a key, those of one key as they were. -/
def bkt (N : Nat) (key : Nat × Nat → Nat) (E : List (Nat × Nat)) : List (Nat × Nat) :=
  (List.range N).flatMap fun k => E.filter fun e => key e == k
/-- Without what stands right behind its like. -/
def dd (p : Option (Nat × Nat)) : List (Nat × Nat) → List (Nat × Nat)
  | [] => []
  | x :: r => if p = some x then dd (some x) r else x :: dd (some x) r
theorem dd_snoc (x : Nat × Nat) : ∀ (l : List (Nat × Nat)) (p : Option (Nat × Nat)), dd p (l ++ [x]) = dd p l ++ (if (l.getLast?).or p = some x then [] else [x])
  | [], p => by
    by_cases h : p = some x <;> simp [dd, h]
  | y :: r, p => by
    have ih := dd_snoc x r (some y)
    have hl : ((y :: r).getLast?).or p = (r.getLast?).or (some y) := by
      cases r with
      | nil => simp
      | cons z t =>
        have : (y :: z :: t).getLast? = (z :: t).getLast? := by simp [List.getLast?_cons]
        rw [this]
        cases h : (z :: t).getLast? with
        | none => simp at h
        | some q => simp
    rw [hl, List.cons_append]
    by_cases h : p = some y
    · simp only [dd, if_pos h]
      rw [ih]
    · simp only [dd, if_neg h]
      rw [ih]
      rfl
theorem dd_rep (x : Nat × Nat) (T : List (Nat × Nat)) : ∀ n, dd (some x) (List.replicate n x ++ T) = dd (some x) T
  | 0 => by simp
  | n + 1 => by
    rw [List.replicate_succ, List.cons_append]
    simp only [dd, if_pos]
    exact dd_rep x T n
theorem dd_flat (c : Nat × Nat → Nat) : ∀ (P : List (Nat × Nat)) (p : Option (Nat × Nat)), P.Nodup → (∀ x, p = some x → x ∉ P) → dd p (P.flatMap fun x => List.replicate (c x) x) = P.filter fun x => decide (0 < c x)
  | [], p, _, _ => by simp [dd]
  | x :: r, p, hn, hp => by
    have hx := (List.nodup_cons.1 hn).1
    have hr := (List.nodup_cons.1 hn).2
    rw [List.flatMap_cons, List.filter_cons]
    cases hc : c x with
    | zero =>
      simp only [List.replicate_zero, List.nil_append]
      rw [dd_flat c r p hr (fun y hy => fun hm => hp y hy (List.mem_cons_of_mem _ hm))]
      simp
    | succ n =>
      have hpx : p ≠ some x := fun h => hp x h List.mem_cons_self
      rw [List.replicate_succ, List.cons_append]
      simp only [dd, if_neg hpx]
      rw [dd_rep, dd_flat c r (some x) hr (fun y hy => by cases hy; exact hx)]
      simp
/-- All pairs in order. -/
def prs (N : Nat) : List (Nat × Nat) := (List.range N).flatMap fun a => (List.range N).map fun b => (a, b)
theorem prs_nodup (N : Nat) : (prs N).Nodup := by
  unfold prs List.Nodup
  rw [List.pairwise_flatMap]
  constructor
  · intro a _
    rw [List.pairwise_map]
    exact (List.nodup_range (n := N)).imp (fun h h2 => h (by simpa using h2))
  · refine List.Pairwise.imp ?_ (List.nodup_range (n := N))
    intro a b hab x hx y hy h
    subst h
    simp at hx hy
    obtain ⟨_, _, rfl⟩ := hx
    obtain ⟨_, _, h⟩ := hy
    exact hab (by simp at h; exact h.1.symm)
theorem filter_eq_rep (x : Nat × Nat) : ∀ E : List (Nat × Nat), (E.filter fun e => e == x) = List.replicate (E.count x) x
  | [] => rfl
  | y :: r => by
    rw [List.filter_cons, List.count_cons, filter_eq_rep x r]
    by_cases h : y == x
    · have : y = x := by simpa using h
      subst this
      simp [List.replicate_succ]
    · simp [h]
theorem bkt2 (N : Nat) (E : List (Nat × Nat)) : bkt N Prod.fst (bkt N Prod.snd E) = (prs N).flatMap fun x => List.replicate (E.count x) x := by
  unfold bkt prs
  rw [List.flatMap_assoc]
  congr 1
  funext a
  rw [List.filter_flatMap, List.flatMap_map]
  congr 1
  funext b
  rw [List.filter_filter, ← filter_eq_rep]
  congr 1
theorem prs_filter (N : Nat) (E : List (Nat × Nat)) : ((prs N).filter fun x => decide (0 < E.count x)) = nrm N E := by
  unfold prs nrm
  rw [List.filter_flatMap]
  congr 1
  funext a
  rw [List.filter_map]
  congr 1
  congr 1
  funext b
  simp [List.count_pos_iff]
theorem dd_bkt (N : Nat) (E : List (Nat × Nat)) : dd none (bkt N Prod.fst (bkt N Prod.snd E)) = nrm N E := by
  rw [bkt2, dd_flat _ _ none (prs_nodup N) (fun _ h => by cases h), prs_filter]
/-- The edges turned. -/
def trn (E : List (Nat × Nat)) : List (Nat × Nat) := E.map fun e => (e.2, e.1)
theorem mem_trn (E : List (Nat × Nat)) (a b : Nat) : (a, b) ∈ trn E ↔ (b, a) ∈ E := by
  unfold trn
  rw [List.mem_map]
  constructor
  · rintro ⟨⟨x, y⟩, h, e⟩
    cases e
    exact h
  · intro h
    exact ⟨(b, a), h, rfl⟩
end Go.Proofs.Ytgedmfcfhdfoeaa.GM

namespace Go.Proofs.Ytgedmfcfhdfoeaa.GM
/-- How many have a key. -/
def cnt (key : Nat × Nat → Nat) (k : Nat) (E : List (Nat × Nat)) : Nat := (E.filter fun e => key e == k).length
/-- How many have a lesser key. -/
def stt (key : Nat × Nat → Nat) (E : List (Nat × Nat)) : Nat → Nat
  | 0 => 0
  | k + 1 => stt key E k + cnt key k E
theorem cnt_snoc (key : Nat × Nat → Nat) (k : Nat) (E : List (Nat × Nat)) (e : Nat × Nat) : cnt key k (E ++ [e]) = cnt key k E + (if key e = k then 1 else 0) := by
  unfold cnt
  rw [List.filter_append, List.length_append]
  by_cases h : key e = k <;> simp [h]
theorem cnt_take (key : Nat × Nat → Nat) (k : Nat) (E : List (Nat × Nat)) (i : Nat) (e : Nat × Nat) (h : E[i]? = some e) : cnt key k (E.take (i + 1)) = cnt key k (E.take i) + (if key e = k then 1 else 0) := by
  rw [List.take_add_one, h]
  exact cnt_snoc key k _ e
theorem cnt_le (key : Nat × Nat → Nat) (k : Nat) (E : List (Nat × Nat)) (i : Nat) : cnt key k (E.take i) ≤ cnt key k E := by
  unfold cnt
  exact ((List.take_sublist i E).filter _).length_le
theorem cnt_len (key : Nat × Nat → Nat) (k : Nat) (E : List (Nat × Nat)) : cnt key k E ≤ E.length := List.length_filter_le _ _
theorem stt_cons (key : Nat × Nat → Nat) (e : Nat × Nat) (E : List (Nat × Nat)) : ∀ n, stt key (e :: E) n = stt key E n + (if key e < n then 1 else 0)
  | 0 => by simp [stt]
  | n + 1 => by
    have hc : cnt key n (e :: E) = cnt key n E + (if key e = n then 1 else 0) := by
      unfold cnt
      rw [List.filter_cons]
      by_cases h : key e = n <;> simp [h]
    rw [stt, stt, stt_cons key e E n, hc]
    by_cases h1 : key e < n
    · have h2 : ¬ key e = n := by omega
      have h3 : key e < n + 1 := by omega
      simp only [h1, h2, h3, if_true, if_false]; omega
    · by_cases h2 : key e = n
      · have h3 : key e < n + 1 := by omega
        simp only [h2, if_true, if_false, Nat.lt_irrefl, Nat.lt_succ_self]; omega
      · have h3 : ¬ key e < n + 1 := by omega
        simp only [h1, h2, h3, if_false]; omega
theorem stt_all (key : Nat × Nat → Nat) (n : Nat) : ∀ E : List (Nat × Nat), (∀ e ∈ E, key e < n) → stt key E n = E.length
  | [], _ => by
    have : ∀ m, stt key [] m = 0 := by intro m; induction m with | zero => rfl | succ m ih => rw [stt, ih]; rfl
    exact this n
  | e :: E, h => by
    rw [stt_cons, stt_all key n E (fun x hx => h x (List.mem_cons_of_mem _ hx)), if_pos (h e List.mem_cons_self)]
    rfl
theorem stt_mono (key : Nat × Nat → Nat) (E : List (Nat × Nat)) {j k : Nat} (h : j ≤ k) : stt key E j ≤ stt key E k := by
  induction k with
  | zero => have : j = 0 := by omega
            rw [this]; exact Nat.le_refl _
  | succ k ih =>
    by_cases hj : j = k + 1
    · rw [hj]; exact Nat.le_refl _
    · have := ih (by omega); rw [stt]; omega
theorem stt_lt (key : Nat × Nat → Nat) (n : Nat) (E : List (Nat × Nat)) (h : ∀ e ∈ E, key e < n) (i : Nat) (e : Nat × Nat) (he : E[i]? = some e) : stt key E (key e) + cnt key (key e) (E.take i) < E.length := by
  have h1 := cnt_take key (key e) E i e he
  rw [if_pos rfl] at h1
  have h2 := cnt_le key (key e) E (i + 1)
  have h3 : stt key E (key e + 1) ≤ stt key E n := stt_mono key E (h e (List.mem_of_getElem? he))
  rw [stt_all key n E h, stt] at h3
  omega
/-- Blocks behind one another. -/
def cat (n : Nat) (B : Nat → List (Nat × Nat)) : List (Nat × Nat) := (List.range n).flatMap B
theorem cat_succ (n : Nat) (B : Nat → List (Nat × Nat)) : cat (n + 1) B = cat n B ++ B n := by
  unfold cat
  rw [List.range_succ, List.flatMap_append]
  simp
theorem cat_congr (n : Nat) (A B : Nat → List (Nat × Nat)) (h : ∀ k, k < n → A k = B k) : cat n A = cat n B := by
  induction n with
  | zero => rfl
  | succ n ih => rw [cat_succ, cat_succ, ih (fun k hk => h k (by omega)), h n (by omega)]
theorem cat_set (n : Nat) (B : Nat → List (Nat × Nat)) (k t : Nat) (v : Nat × Nat) (hk : k < n) (ht : t < (B k).length) : (cat n B).set ((cat k B).length + t) v = cat n (fun j => if j = k then (B k).set t v else B j) := by
  induction n with
  | zero => omega
  | succ n ih =>
    rw [cat_succ, cat_succ]
    by_cases h : k = n
    · subst h
      rw [if_pos rfl, List.set_append_right _ _ (by omega), Nat.add_sub_cancel_left]
      congr 1
      exact cat_congr _ _ _ fun j hj => by rw [if_neg (by omega)]
    · rw [if_neg (Ne.symm h), ← ih (by omega)]
      refine List.set_append_left _ _ ?_
      have hlt : (cat (k + 1) B).length ≤ (cat n B).length := by
        have : ∀ m, k + 1 ≤ m → (cat (k + 1) B).length ≤ (cat m B).length := by
          intro m hm
          induction m with
          | zero => omega
          | succ m ih2 =>
            by_cases hq : k + 1 = m + 1
            · rw [hq]; exact Nat.le_refl _
            · rw [cat_succ m, List.length_append]; have := ih2 (by omega); omega
        exact this n (by omega)
      rw [cat_succ, List.length_append] at hlt
      omega
/-- What stands of one key when i have been laid. -/
def blk (key : Nat × Nat → Nat) (E : List (Nat × Nat)) (i k : Nat) : List (Nat × Nat) := ((E.take i).filter fun e => key e == k) ++ List.replicate (cnt key k E - cnt key k (E.take i)) (0, 0)
theorem blk_len (key : Nat × Nat → Nat) (E : List (Nat × Nat)) (i k : Nat) : (blk key E i k).length = cnt key k E := by
  unfold blk
  rw [List.length_append, List.length_replicate]
  have := cnt_le key k E i
  show cnt key k (E.take i) + _ = _
  omega
def fil (n : Nat) (key : Nat × Nat → Nat) (E : List (Nat × Nat)) (i : Nat) : List (Nat × Nat) := cat n (blk key E i)
theorem cat_blk_len (key : Nat × Nat → Nat) (E : List (Nat × Nat)) (i : Nat) : ∀ k, (cat k (blk key E i)).length = stt key E k
  | 0 => rfl
  | k + 1 => by rw [cat_succ, List.length_append, blk_len, cat_blk_len key E i k]; rfl
theorem fil_len (n : Nat) (key : Nat × Nat → Nat) (E : List (Nat × Nat)) (h : ∀ e ∈ E, key e < n) (i : Nat) : (fil n key E i).length = E.length := by
  unfold fil
  rw [cat_blk_len, stt_all key n E h]
theorem fil_zero (n : Nat) (key : Nat × Nat → Nat) (E : List (Nat × Nat)) (h : ∀ e ∈ E, key e < n) : fil n key E 0 = List.replicate E.length (0, 0) := by
  rw [List.eq_replicate_iff]
  refine ⟨fil_len n key E h 0, fun x hx => ?_⟩
  unfold fil cat blk at hx
  simp at hx
  obtain ⟨_, _, _, hx⟩ := hx
  exact hx
theorem fil_end (n : Nat) (key : Nat × Nat → Nat) (E : List (Nat × Nat)) : fil n key E E.length = bkt n key E := by
  unfold fil bkt
  show cat n _ = cat n _
  refine cat_congr n _ _ fun k _ => ?_
  unfold blk
  rw [List.take_length, Nat.sub_self, List.replicate_zero, List.append_nil]
theorem fil_step (n : Nat) (key : Nat × Nat → Nat) (E : List (Nat × Nat)) (h : ∀ e ∈ E, key e < n) (i : Nat) (e : Nat × Nat) (he : E[i]? = some e) : (fil n key E i).set (stt key E (key e) + cnt key (key e) (E.take i)) e = fil n key E (i + 1) := by
  have hk := h e (List.mem_of_getElem? he)
  have h1 := cnt_take key (key e) E i e he
  rw [if_pos rfl] at h1
  have h2 := cnt_le key (key e) E (i + 1)
  unfold fil
  rw [← cat_blk_len key E i (key e), cat_set n _ (key e) _ e hk (by rw [blk_len]; omega)]
  refine cat_congr n _ _ fun k _ => ?_
  by_cases hq : k = key e
  · rw [if_pos hq, hq]
    unfold blk
    have ht : E.take (i + 1) = E.take i ++ [e] := by rw [List.take_add_one, he]; rfl
    have h3 : cnt key (key e) E - cnt key (key e) (E.take i) = (cnt key (key e) E - cnt key (key e) (E.take (i + 1))) + 1 := by omega
    rw [h3, List.replicate_succ, List.set_append_right (cnt key (key e) (E.take i)) _ (Nat.le_refl _)]
    show _ ++ List.set _ (cnt key (key e) (E.take i) - cnt key (key e) (E.take i)) e = _
    rw [Nat.sub_self, List.set_cons_zero, ht, List.filter_append]
    simp
  · rw [if_neg hq]
    unfold blk
    have h4 := cnt_take key k E i e he
    rw [if_neg (fun x => hq x.symm)] at h4
    have ht : E.take (i + 1) = E.take i ++ [e] := by rw [List.take_add_one, he]; rfl
    rw [h4, ht, List.filter_append]
    have : (key e == k) = false := by simpa using fun x => hq x.symm
    simp [this]
/-- Numbers by a function. -/
theorem map_set (n : Nat) (F G : Nat → Nat) (j v : Nat) (hj : G j = v) (h : ∀ i, i ≠ j → G i = F i) : ((List.range n).map F).set j v = (List.range n).map G := by
  apply List.ext_getElem?
  intro i
  rw [List.getElem?_set]
  by_cases hi : j = i
  · subst hi
    rw [if_pos rfl]
    by_cases hn : j < n
    · simp [hn, hj]
    · simp [hn]
  · rw [if_neg hi]
    by_cases hn : i < n
    · simp [hn, h i (fun x => hi x.symm)]
    · simp [hn]
end Go.Proofs.Ytgedmfcfhdfoeaa.GM

namespace Go.Proofs.Ytgedmfcfhdfoeaa.GM
/-- The lists in which a number stands, of the first so many. -/
def trL (L : Nat → List Nat) (b a : Nat) : List Nat := (List.range b).filter fun k => decide (a ∈ L k)
theorem trL_succ (L : Nat → List Nat) (b a : Nat) : trL L (b + 1) a = trL L b a ++ (if a ∈ L b then [b] else []) := by
  unfold trL
  rw [List.range_succ, List.filter_append]
  by_cases h : a ∈ L b <;> simp [h]
theorem trL_lt (L : Nat → List Nat) (b a x : Nat) (h : x ∈ trL L b a) : x < b := by
  unfold trL at h
  simp at h
  exact h.1
theorem trL_len (L : Nat → List Nat) (b a : Nat) : (trL L b a).length ≤ b := by
  have := List.length_filter_le (fun k => decide (a ∈ L k)) (List.range b)
  rw [List.length_range] at this
  exact this
/-- The same while a list is gone over. -/
def trS (L : Nat → List Nat) (b i a : Nat) : List Nat := trL L b a ++ (if a ∈ (L b).take i then [b] else [])
theorem trS_zero (L : Nat → List Nat) (b a : Nat) : trS L b 0 a = trL L b a := by simp [trS]
theorem trS_end (L : Nat → List Nat) (b a : Nat) : trS L b (L b).length a = trL L (b + 1) a := by
  rw [trL_succ]
  unfold trS
  rw [List.take_length]
theorem trS_len (L : Nat → List Nat) (b i a : Nat) : (trS L b i a).length ≤ b + 1 := by
  unfold trS
  have := trL_len L b a
  rw [List.length_append]
  split <;> simp <;> omega
theorem trS_lt (L : Nat → List Nat) (b i a x : Nat) (h : x ∈ trS L b i a) : x ≤ b := by
  unfold trS at h
  rw [List.mem_append] at h
  rcases h with h | h
  · exact Nat.le_of_lt (trL_lt L b a x h)
  · split at h
    · simp at h; omega
    · cases h
theorem trS_other (L : Nat → List Nat) (b i a x : Nat) (hx : (L b)[i]? = some x) (h : a ≠ x) : trS L b (i + 1) a = trS L b i a := by
  unfold trS
  rw [List.take_add_one, hx]
  simp [h]
theorem trS_in (L : Nat → List Nat) (b i x : Nat) (_hx : (L b)[i]? = some x) (h : (trS L b i x).getLast? = some b) : trS L b (i + 1) x = trS L b i x := by
  by_cases hm : x ∈ (L b).take i
  · unfold trS
    rw [if_pos hm, if_pos (by rw [List.take_add_one]; exact List.mem_append_left _ hm)]
  · exfalso
    unfold trS at h
    rw [if_neg hm, List.append_nil] at h
    have := trL_lt L b x b (List.mem_of_getLast? h)
    omega
theorem trS_new (L : Nat → List Nat) (b i x : Nat) (hx : (L b)[i]? = some x) (h : (trS L b i x).getLast? ≠ some b) : trS L b (i + 1) x = trS L b i x ++ [b] := by
  by_cases hm : x ∈ (L b).take i
  · exfalso
    apply h
    unfold trS
    rw [if_pos hm]
    simp
  · unfold trS
    rw [if_neg hm, List.append_nil, if_pos (by rw [List.take_add_one, hx]; simp)]
/-- What needs a node, of the first so many edges. -/
def nds (E : List (Nat × Nat)) (i b : Nat) : List Nat := ((E.take i).filter fun e => e.2 == b).map Prod.fst
theorem nds_zero (E : List (Nat × Nat)) (b : Nat) : nds E 0 b = [] := by simp [nds]
theorem nds_same (E : List (Nat × Nat)) (i : Nat) (x y : Nat) (h : E[i]? = some (x, y)) : nds E (i + 1) y = nds E i y ++ [x] := by
  unfold nds
  rw [List.take_add_one, h]
  simp [List.filter_append]
theorem nds_other (E : List (Nat × Nat)) (i : Nat) (x y b : Nat) (h : E[i]? = some (x, y)) (hb : b ≠ y) : nds E (i + 1) b = nds E i b := by
  unfold nds
  rw [List.take_add_one, h]
  have : (y == b) = false := by simpa using fun h => hb h.symm
  simp [List.filter_append, this]
theorem nds_len (E : List (Nat × Nat)) (i b : Nat) : (nds E i b).length ≤ i := by
  unfold nds
  rw [List.length_map]
  have := List.length_filter_le (fun e : Nat × Nat => e.2 == b) (E.take i)
  rw [List.length_take] at this
  omega
theorem nds_mem (E : List (Nat × Nat)) (i a b : Nat) (h : a ∈ nds E i b) : (a, b) ∈ E := by
  unfold nds at h
  rw [List.mem_map] at h
  obtain ⟨⟨x, y⟩, h1, rfl⟩ := h
  rw [List.mem_filter] at h1
  have : y = b := by simpa using h1.2
  subst this
  exact List.mem_of_mem_take h1.1
theorem nds_all (E : List (Nat × Nat)) (a b : Nat) : a ∈ nds E E.length b ↔ (a, b) ∈ E := by
  refine ⟨nds_mem E _ a b, fun h => ?_⟩
  unfold nds
  rw [List.take_length, List.mem_map]
  exact ⟨(a, b), by rw [List.mem_filter]; exact ⟨h, by simp⟩, rfl⟩
/-- The lists of needs as edges, the first so many. -/
def edg (L : Nat → List Nat) (n : Nat) : List (Nat × Nat) := (List.range n).flatMap fun a => (L a).map fun b => (a, b)
theorem edg_succ (L : Nat → List Nat) (n : Nat) : edg L (n + 1) = edg L n ++ (L n).map fun b => (n, b) := by
  unfold edg
  rw [List.range_succ, List.flatMap_append]
  simp
theorem edg_congr (L M : Nat → List Nat) (n : Nat) (h : ∀ a, a < n → L a = M a) : edg L n = edg M n := by
  induction n with
  | zero => rfl
  | succ n ih => rw [edg_succ, edg_succ, ih (fun a ha => h a (by omega)), h n (by omega)]
/-- Norm. -/
theorem edg_norm (N : Nat) (E : List (Nat × Nat)) : edg (trL (nds E E.length) N) N = nrm N E := by
  unfold edg nrm
  congr 1
  funext a
  congr 1
  unfold trL
  congr 1
  funext b
  exact decide_eq_decide.2 (nds_all E a b)
/-- Transpose. -/
theorem edg_turn (N : Nat) (E : List (Nat × Nat)) (hE : ∀ e ∈ E, e.1 < N ∧ e.2 < N) : edg (trL (trL (nds E E.length) N) N) N = nrm N (trn E) := by
  unfold edg nrm
  congr 1
  funext a
  congr 1
  unfold trL
  congr 1
  funext b
  refine decide_eq_decide.2 ?_
  rw [mem_trn, List.mem_filter, List.mem_range]
  constructor
  · intro h
    exact (nds_all E b a).1 (of_decide_eq_true h.2)
  · intro h
    exact ⟨(hE _ h).2, decide_eq_true ((nds_all E b a).2 h)⟩
end Go.Proofs.Ytgedmfcfhdfoeaa.GM
