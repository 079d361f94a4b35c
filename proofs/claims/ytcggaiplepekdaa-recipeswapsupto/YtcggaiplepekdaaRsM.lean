/- Texts exchanged: the mathematics. -/
import Derived.Test.YtcggaiplepekdaaRcB
namespace Go.Proofs.Ytcggaiplepekdaa
abbrev Bts := List UInt8
def bl (s : S) : Bts := s.data.toList
theorem bl_len (s : S) : (bl s).length = s.size := Array.length_toList
theorem bl_inj {a b : S} (h : bl a = bl b) : a = b := by
  cases a; cases b
  simp only [bl, Array.toList_inj] at h
  rw [h]
theorem bl_app (a b : S) : bl (a ++ b) = bl a ++ bl b := by unfold bl; rw [ByteArray.data_append]; simp
def tn (a : Bts) : List Nat := a.map (·.toNat)
/-- In order, or alike. -/
def Le (a b : Bts) : Prop := ¬ tn b < tn a
theorem Le.trans {a b c : Bts} (h1 : Le a b) (h2 : Le b c) : Le a c := by
  unfold Le at *
  rw [List.not_lt] at h1 h2 ⊢
  exact List.le_trans h1 h2
theorem u8n {x y : UInt8} (h : x.toNat = y.toNat) : x = y := UInt8.toNat_inj.1 h
theorem tn_cons (x : UInt8) (a : Bts) : tn (x :: a) = x.toNat :: tn a := rfl
theorem pre_mid : ∀ {a b c : Bts}, Le a c → Le c b → a <+: b → a <+: c
  | [], _, _, _, _, _ => List.nil_prefix
  | x :: a, [], _, _, _, h => by simp at h
  | x :: a, y :: b, [], h, _, _ => by
    exfalso; apply h
    rw [tn_cons]; exact List.nil_lt_cons _ _
  | x :: a, y :: b, z :: c, h1, h2, h3 => by
    unfold Le at h1 h2
    rw [tn_cons, tn_cons, List.cons_lt_cons_iff] at h1 h2
    obtain ⟨rfl, h4⟩ := List.cons_prefix_cons.1 h3
    obtain rfl : x = z := u8n (by omega)
    exact List.cons_prefix_cons.2 ⟨rfl, pre_mid (fun q => h1 (.inr ⟨rfl, q⟩)) (fun q => h2 (.inr ⟨rfl, q⟩)) h4⟩
theorem pre_le : ∀ {a b : Bts}, a <+: b → Le a b
  | [], b, _ => by
    intro h
    cases b with
    | nil => exact List.lt_irrefl _ h
    | cons x b => exact absurd h (by simp [tn])
  | x :: a, [], h => by simp at h
  | x :: a, y :: b, h => by
    obtain ⟨rfl, h4⟩ := List.cons_prefix_cons.1 h
    unfold Le
    rw [tn_cons, tn_cons, List.cons_lt_cons_iff]
    have := pre_le h4
    unfold Le at this
    rintro (q | ⟨_, q⟩)
    · omega
    · exact this q
theorem le_anti : ∀ {a b : Bts}, Le a b → Le b a → a = b
  | [], [], _, _ => rfl
  | [], y :: b, _, h => by exfalso; apply h; rw [tn_cons]; exact List.nil_lt_cons _ _
  | x :: a, [], h, _ => by exfalso; apply h; rw [tn_cons]; exact List.nil_lt_cons _ _
  | x :: a, y :: b, h1, h2 => by
    unfold Le at h1 h2
    rw [tn_cons, tn_cons, List.cons_lt_cons_iff] at h1 h2
    obtain rfl : x = y := u8n (by omega)
    rw [le_anti (a := a) (b := b) (fun q => h1 (.inr ⟨rfl, q⟩)) (fun q => h2 (.inr ⟨rfl, q⟩))]
/-- No one begins with another one. -/
def PF (C : List Pai) : Prop := C.Pairwise fun x y => ¬ bl x.1 <+: bl y.1 ∧ ¬ bl y.1 <+: bl x.1
/-- None is empty, none is another one or a piece of it. -/
def Apt (l : List S) : Prop := (∀ a ∈ l, bl a ≠ []) ∧ l.Pairwise fun x y => ¬ bl x <:+: bl y ∧ ¬ bl y <:+: bl x
theorem Apt.perm {l l' : List S} (h : l.Perm l') : Apt l ↔ Apt l' := by
  unfold Apt
  rw [h.pairwise_iff (fun q => ⟨q.2, q.1⟩)]
  constructor <;> rintro ⟨a, b⟩ <;> exact ⟨fun x hx => a x (by first | exact h.mem_iff.2 hx | exact h.mem_iff.1 hx), b⟩
theorem pw_at {α : Type} {R : α → α → Prop} (hs : ∀ x y, R x y → R y x) {l : List α} (h : l.Pairwise R) {i j : Nat} {x y : α} (hi : l[i]? = some x) (hj : l[j]? = some y) (hn : i ≠ j) : R x y := by
  obtain ⟨h1, rfl⟩ := List.getElem?_eq_some_iff.1 hi
  obtain ⟨h2, rfl⟩ := List.getElem?_eq_some_iff.1 hj
  rw [List.pairwise_iff_getElem] at h
  rcases Nat.lt_or_gt_of_ne hn with q | q
  · exact h i j h1 h2 q
  · exact hs _ _ (h j i h2 h1 q)
theorem pw_of {α : Type} {R : α → α → Prop} {l : List α} (h : ∀ (i j : Nat) (x y : α), i < j → l[i]? = some x → l[j]? = some y → R x y) : l.Pairwise R := by
  rw [List.pairwise_iff_getElem]
  intro i j h1 h2 q
  exact h i j _ _ q (List.getElem?_eq_getElem h1) (List.getElem?_eq_getElem h2)
/-- In order. -/
def Sd (C : List Pai) : Prop := ∀ (i j : Nat) (x y : Pai), i < j → C[i]? = some x → C[j]? = some y → Le (bl x.1) (bl y.1)
/-- Neighbours are apart. -/
def Nb (C : List Pai) (n : Nat) : Prop := ∀ (i : Nat) (x : Pai), i < n → C[i]? = some x → bl x.1 ≠ [] ∧ ∀ (k : Nat) (y : Pai), i = k + 1 → C[k]? = some y → ¬ bl y.1 <+: bl x.1
theorem pf_of {C : List Pai} (hs : Sd C) (hn : Nb C C.length) : PF C := by
  refine pw_of fun i j x y hij hi hj => ?_
  have hjl : j < C.length := (List.getElem?_eq_some_iff.1 hj).1
  have key : ¬ bl x.1 <+: bl y.1 := fun q => by
    obtain ⟨z, hz⟩ : ∃ z, C[i + 1]? = some z := ⟨_, List.getElem?_eq_getElem (by omega)⟩
    refine (hn (i + 1) z (by omega) hz).2 i x rfl hi ?_
    by_cases e : i + 1 = j
    · subst e
      obtain rfl : z = y := Option.some.inj (hz.symm.trans hj)
      exact q
    · exact pre_mid (hs i (i + 1) x z (by omega) hi hz) (hs (i + 1) j z y (by omega) hz hj) q
  exact ⟨key, fun q => key (by rw [le_anti (pre_le q) (hs i j x y hij hi hj)]; exact List.prefix_rfl)⟩
theorem not_nb {C : List Pai} {i : Nat} {x : Pai} (hi : C[i]? = some x) (h : bl x.1 = [] ∨ ∃ (k : Nat) (y : Pai), i = k + 1 ∧ C[k]? = some y ∧ bl y.1 <+: bl x.1) : ¬ Apt (C.map (·.1)) := fun ha => by
  rcases h with h | ⟨k, y, e, hk, hp⟩
  · exact ha.1 x.1 (List.mem_map.2 ⟨x, List.mem_of_getElem? hi, rfl⟩) h
  · have := pw_at (fun _ _ q => ⟨q.2, q.1⟩) ha.2 (i := k) (j := i) (x := y.1) (y := x.1) (by rw [List.getElem?_map, hk]; rfl) (by rw [List.getElem?_map, hi]; rfl) (by omega)
    exact this.1 hp.isInfix
/-- The change of the one with which a text begins. -/
def hit (C : List Pai) (t : Bts) : Option Pai := C.find? fun x => (bl x.1).isPrefixOf t
theorem hit_some {C : List Pai} {t : Bts} {x : Pai} (h : hit C t = some x) : x ∈ C ∧ bl x.1 <+: t := ⟨List.mem_of_find?_eq_some h, List.isPrefixOf_iff_prefix.1 (by have := List.find?_some (p := fun x : Pai => (bl x.1).isPrefixOf t) h; exact this)⟩
theorem hit_none {C : List Pai} {t : Bts} : hit C t = none ↔ ∀ x ∈ C, ¬ bl x.1 <+: t := by
  unfold hit
  rw [List.find?_eq_none]
  exact ⟨fun h x hx q => h x hx (List.isPrefixOf_iff_prefix.2 q), fun h x hx q => h x hx (List.isPrefixOf_iff_prefix.1 q)⟩
theorem pf_one {C : List Pai} (h : PF C) {t : Bts} {x y : Pai} (hx : x ∈ C) (hy : y ∈ C) (h1 : bl x.1 <+: t) (h2 : bl y.1 <+: t) : x = y := by
  obtain ⟨i, hi⟩ := List.mem_iff_getElem?.1 hx
  obtain ⟨j, hj⟩ := List.mem_iff_getElem?.1 hy
  by_cases e : i = j
  · subst e; exact Option.some.inj (hi.symm.trans hj)
  · have := pw_at (fun _ _ q => ⟨q.2, q.1⟩) h hi hj e
    rcases List.prefix_or_prefix_of_prefix h1 h2 with q | q
    · exact absurd q this.1
    · exact absurd q this.2
theorem hit_of {C : List Pai} (h : PF C) {t : Bts} {x : Pai} (hx : x ∈ C) (h1 : bl x.1 <+: t) : hit C t = some x := by
  cases hq : hit C t with
  | none => exact absurd h1 (hit_none.1 hq x hx)
  | some y => rw [pf_one h hx (hit_some hq).1 h1 (hit_some hq).2]
theorem PF.perm {C C' : List Pai} (h : C.Perm C') (hp : PF C) : PF C' := (h.pairwise_iff (fun q => ⟨q.2, q.1⟩)).1 hp
theorem hit_perm {C C' : List Pai} (h : C.Perm C') (hp : PF C) (t : Bts) : hit C t = hit C' t := by
  cases hq : hit C' t with
  | none => exact hit_none.2 fun x hx => hit_none.1 hq x (h.mem_iff.1 hx)
  | some y => exact hit_of hp (h.mem_iff.2 (hit_some hq).1) (hit_some hq).2
theorem Apt.pf {C : List Pai} (h : Apt (C.map (·.1))) : PF C := by
  refine pw_of fun i j x y hij hi hj => ?_
  have := pw_at (fun _ _ q => ⟨q.2, q.1⟩) h.2 (i := i) (j := j) (x := x.1) (y := y.1) (by rw [List.getElem?_map, hi]; rfl) (by rw [List.getElem?_map, hj]; rfl) (by omega)
  exact ⟨fun q => this.1 q.isInfix, fun q => this.2 q.isInfix⟩
/-- No change is empty. -/
def NE (C : List Pai) : Prop := ∀ x ∈ C, bl x.1 ≠ []
theorem hit_nil {C : List Pai} (h : NE C) : hit C [] = none := hit_none.2 fun x hx q => h x hx (List.prefix_nil.1 q)
/-- Behind the first byte of each one none stands: then they are apart. -/
theorem apt_of {C : List Pai} (hp : PF C) (hne : NE C) (h : ∀ x ∈ C, ∀ k, hit C (((bl x.1).drop 1).drop k) = none) : Apt (C.map (·.1)) := by
  refine ⟨fun a ha => ?_, ?_⟩
  · obtain ⟨x, hx, rfl⟩ := List.mem_map.1 ha
    exact hne x hx
  · have key : ∀ x ∈ C, ∀ y ∈ C, ¬ bl x.1 <+: bl y.1 → ¬ bl x.1 <:+: bl y.1 := fun x hx y hy hn q => by
      obtain ⟨s, t, e⟩ := q
      cases s with
      | nil => exact hn ⟨t, by simpa using e⟩
      | cons z s =>
        refine hit_none.1 (h y hy s.length) x hx ⟨t, ?_⟩
        rw [← e]
        simp
    rw [List.pairwise_map]
    refine List.Pairwise.imp_of_mem (fun hx hy q => ⟨key _ hx _ hy q.1, key _ hy _ hx q.2⟩) hp
theorem not_apt {C : List Pai} (hne : NE C) {x y : Pai} (hx : x ∈ C) {k : Nat} (h : hit C (((bl x.1).drop 1).drop k) = some y) : ¬ Apt (C.map (·.1)) := fun ha => by
  obtain ⟨hy, q⟩ := hit_some h
  have hinf : bl y.1 <:+: bl x.1 := q.isInfix.trans (((List.drop_suffix _ _).trans (List.drop_suffix _ _)).isInfix)
  obtain ⟨i, hi⟩ := List.mem_iff_getElem?.1 hx
  obtain ⟨j, hj⟩ := List.mem_iff_getElem?.1 hy
  by_cases e : i = j
  · subst e
    obtain rfl : x = y := Option.some.inj (hi.symm.trans hj)
    have := q.length_le
    have h0 : 0 < (bl x.1).length := List.length_pos_iff.2 (hne x hx)
    simp at this
    omega
  · have := pw_at (fun _ _ q => ⟨q.2, q.1⟩) ha.2 (i := i) (j := j) (x := x.1) (y := y.1) (by rw [List.getElem?_map, hi]; rfl) (by rw [List.getElem?_map, hj]; rfl) e
    exact this.2 hinf
/-- Search: in order, the last that is not behind a text is the only one with which it may begin. -/
theorem hit_last {C : List Pai} (hs : Sd C) (hp : PF C) {t : Bts} {n : Nat} {x : Pai} (hx : C[n]? = some x) (h1 : Le (bl x.1) t) (h2 : ∀ (i : Nat) (y : Pai), n < i → C[i]? = some y → ¬ Le (bl y.1) t) : hit C t = if (bl x.1).isPrefixOf t then some x else none := by
  split
  · rename_i q
    exact hit_of hp (List.mem_of_getElem? hx) (List.isPrefixOf_iff_prefix.1 q)
  · rename_i q
    refine hit_none.2 fun y hy hpre => ?_
    obtain ⟨j, hj⟩ := List.mem_iff_getElem?.1 hy
    by_cases e : j = n
    · subst e
      obtain rfl : x = y := Option.some.inj (hx.symm.trans hj)
      exact q (List.isPrefixOf_iff_prefix.2 hpre)
    · by_cases e2 : n < j
      · exact h2 j y e2 hj (pre_le hpre)
      · have := pw_at (fun _ _ q => ⟨q.2, q.1⟩) hp hj hx e
        exact this.1 (pre_mid (hs j n y x (by omega) hj hx) h1 hpre)
theorem cnt_mono (p : Nat → Bool) : ∀ n, (∀ a b, a ≤ b → b < n → p a = true → p b = true) → (List.range n).countP (fun i => !p i) ≤ n ∧ (∀ i, i < (List.range n).countP (fun i => !p i) → p i = false) ∧ (∀ i, (List.range n).countP (fun i => !p i) ≤ i → i < n → p i = true)
  | 0, _ => by simp
  | n + 1, h => by
    obtain ⟨i1, i2, i3⟩ := cnt_mono p n (fun a b q1 q2 => h a b q1 (by omega))
    rw [List.range_succ, List.countP_append]
    cases hq : p n with
    | true =>
      have e : List.countP (fun i => !p i) [n] = 0 := by simp [hq]
      rw [e, Nat.add_zero]
      refine ⟨by omega, i2, fun i a b => ?_⟩
      by_cases e : i = n
      · rw [e]; exact hq
      · exact i3 i a (by omega)
    | false =>
      have e : List.countP (fun i => !p i) [n] = 1 := by simp [hq]
      have hall : ∀ i, i < n + 1 → p i = false := fun i hi => by
        cases hp : p i with
        | false => rfl
        | true => rw [h i n (by omega) (by omega) hp] at hq; cases hq
      have en : (List.range n).countP (fun i => !p i) = n := by
        have : (List.range n).countP (fun i => !p i) = (List.range n).length := List.countP_eq_length.2 fun i hi => by
          rw [hall i (by have := List.mem_range.1 hi; omega)]; rfl
        rw [this, List.length_range]
      rw [e, en]
      exact ⟨Nat.le_refl _, hall, fun i a b => by omega⟩
/-- A text with its changes made. -/
def sw (C : List Pai) : Nat → Bts → Bts
  | 0, _ => []
  | _ + 1, [] => []
  | n + 1, c :: r => match hit C (c :: r) with
    | some x => bl x.2 ++ sw C n ((c :: r).drop (bl x.1).length)
    | none => c :: sw C n r
theorem sw_fuel {C : List Pai} (h : NE C) : ∀ (n m : Nat) (s : Bts), s.length ≤ n → s.length ≤ m → sw C n s = sw C m s
  | 0, 0, _, _, _ => rfl
  | 0, _ + 1, [], _, _ => rfl
  | 0, _ + 1, _ :: _, h1, _ => by simp at h1
  | _ + 1, 0, [], _, _ => rfl
  | _ + 1, 0, _ :: _, _, h2 => by simp at h2
  | _ + 1, _ + 1, [], _, _ => rfl
  | n + 1, m + 1, c :: r, h1, h2 => by
    unfold sw
    split
    · rename_i x hx
      have h0 : 0 < (bl x.1).length := List.length_pos_iff.2 (h x (hit_some hx).1)
      rw [sw_fuel h n m _ (by simp at h1 ⊢; omega) (by simp at h2 ⊢; omega)]
    · rw [sw_fuel h n m r (by simpa using h1) (by simpa using h2)]
def SW (C : List Pai) (s : Bts) : Bts := sw C s.length s
theorem SW_nil (C : List Pai) : SW C [] = [] := rfl
theorem SW_hit {C : List Pai} (h : NE C) {s : Bts} {x : Pai} (hx : hit C s = some x) : SW C s = bl x.2 ++ SW C (s.drop (bl x.1).length) := by
  cases s with
  | nil => rw [hit_nil h] at hx; cases hx
  | cons c r =>
    have h0 : 0 < (bl x.1).length := List.length_pos_iff.2 (h x (hit_some hx).1)
    unfold SW
    rw [List.length_cons]
    conv => lhs; unfold sw
    rw [hx]
    simp only
    rw [sw_fuel h r.length _ _ (by simp; omega) (Nat.le_refl _)]
theorem SW_miss {C : List Pai} (_ : NE C) {c : UInt8} {r : Bts} (hx : hit C (c :: r) = none) : SW C (c :: r) = c :: SW C r := by
  unfold SW
  rw [List.length_cons]
  conv => lhs; unfold sw
  rw [hx]
theorem SW_skip {C : List Pai} (h : NE C) : ∀ (a : Nat) (s : Bts), a ≤ s.length → (∀ k, k < a → hit C (s.drop k) = none) → SW C s = s.take a ++ SW C (s.drop a)
  | 0, s, _, _ => by simp
  | a + 1, [], hl, _ => by simp at hl
  | a + 1, c :: r, hl, hn => by
    have ih := SW_skip h a r (by simpa using hl) (fun k hk => by have := hn (k + 1) (by omega); simpa using this)
    rw [SW_miss h (by have := hn 0 (by omega); simpa using this), ih]
    simp
theorem SW_all {C : List Pai} (h : NE C) {s : Bts} (hn : ∀ k, hit C (s.drop k) = none) : SW C s = s := by
  rw [SW_skip h s.length s (Nat.le_refl _) (fun k _ => hn k)]
  simp [SW_nil]
theorem sw_len {C : List Pai} {M : Nat} (hM : 1 ≤ M) (h : NE C) (ht : ∀ x ∈ C, (bl x.2).length ≤ M) : ∀ (n : Nat) (s : Bts), s.length ≤ n → (SW C s).length ≤ s.length * M
  | _, [], _ => by simp [SW_nil]
  | 0, _ :: _, hl => by simp at hl
  | n + 1, c :: r, hl => by
    cases hq : hit C (c :: r) with
    | none =>
      have ih := sw_len hM h ht n r (by simpa using hl)
      rw [SW_miss h hq, List.length_cons, List.length_cons, Nat.add_mul]
      omega
    | some x =>
      have h0 : 0 < (bl x.1).length := List.length_pos_iff.2 (h x (hit_some hq).1)
      have hp := (hit_some hq).2.length_le
      have ih := sw_len hM h ht n ((c :: r).drop (bl x.1).length) (by simp at hl ⊢; omega)
      have h2 := ht x (hit_some hq).1
      rw [SW_hit h hq, List.length_append]
      rw [List.length_drop] at ih
      have e : (c :: r).length * M = ((c :: r).length - (bl x.1).length) * M + (bl x.1).length * M := by rw [← Nat.add_mul, Nat.sub_add_cancel hp]
      have : M ≤ (bl x.1).length * M := Nat.le_mul_of_pos_left M h0
      omega
theorem SW_perm {C C' : List Pai} (h : C.Perm C') (hp : PF C) : ∀ (n : Nat) (s : Bts), sw C n s = sw C' n s
  | 0, _ => rfl
  | _ + 1, [] => rfl
  | n + 1, c :: r => by
    unfold sw
    rw [← hit_perm h hp]
    cases hit C (c :: r) with
    | none => simp only; rw [SW_perm h hp n r]
    | some x => simp only; rw [SW_perm h hp n _]
/-- The text itself. -/
def swS (C : List Pai) (s : S) : S := ⟨(SW C (bl s)).toArray⟩
theorem bl_swS (C : List Pai) (s : S) : bl (swS C s) = SW C (bl s) := by simp [bl, swS]
theorem swS_perm {C C' : List Pai} (h : C.Perm C') (hp : PF C) (s : S) : swS C s = swS C' s := bl_inj (by rw [bl_swS, bl_swS]; exact SW_perm h hp _ _)
end Go.Proofs.Ytcggaiplepekdaa
