/- Graphs reduced: the mathematics. -/
namespace Go.Proofs.Ytgedmfcfhdfoeaa.Gl
/-- Paths of one step or more. -/
inductive TG (L : Nat → List Nat) : Nat → Nat → Prop
  | one {a b : Nat} : b ∈ L a → TG L a b
  | more {a b c : Nat} : b ∈ L a → TG L b c → TG L a c
theorem tg_iff {L : Nat → List Nat} {a c : Nat} : TG L a c ↔ c ∈ L a ∨ ∃ b, b ∈ L a ∧ TG L b c := by
  constructor
  · intro h
    cases h with
    | one h => exact .inl h
    | more h1 h2 => exact .inr ⟨_, h1, h2⟩
  · rintro (h | ⟨b, h1, h2⟩)
    · exact .one h
    · exact .more h1 h2
theorem TG.trans {L : Nat → List Nat} {a b c : Nat} (h : TG L a b) (h2 : TG L b c) : TG L a c := by
  induction h with
  | one h => exact .more h h2
  | more h _ ih => exact .more h (ih h2)
theorem TG.mono {L L' : Nat → List Nat} (hs : ∀ a b, b ∈ L a → b ∈ L' a) {a c : Nat} (h : TG L a c) : TG L' a c := by
  induction h with
  | one h => exact .one (hs _ _ h)
  | more h _ ih => exact .more (hs _ _ h) ih
theorem TG.lt {L : Nat → List Nat} (hL : ∀ a b, b ∈ L a → b < a) {a c : Nat} (h : TG L a c) : c < a := by
  induction h with
  | one h => exact hL _ _ h
  | more h _ ih => have := hL _ _ h; omega
open Classical in
/-- The same as a truth value. -/
noncomputable def tgb (L : Nat → List Nat) (a c : Nat) : Bool := decide (TG L a c)
theorem tgb_iff {L : Nat → List Nat} {a c : Nat} : tgb L a c = true ↔ TG L a c := by simp [tgb]
/-- What longer paths lead to. -/
noncomputable def far (L : Nat → List Nat) (a c : Nat) : Bool := (L a).any fun b => tgb L b c
theorem far_iff {L : Nat → List Nat} {a c : Nat} : far L a c = true ↔ ∃ b, b ∈ L a ∧ TG L b c := by simp [far, tgb_iff]
theorem tgb_eq (L : Nat → List Nat) (a c : Nat) : tgb L a c = (far L a c || (L a).contains c) := by
  rw [Bool.eq_iff_iff, tgb_iff, Bool.or_eq_true, far_iff, List.contains_iff_mem, tg_iff]
  exact Or.comm
/-- What is left. -/
noncomputable def red (L : Nat → List Nat) (a : Nat) : List Nat := (L a).filter fun b => !far L a b
theorem red_sub {L : Nat → List Nat} {a b : Nat} (h : b ∈ red L a) : b ∈ L a := (List.mem_filter.1 h).1
theorem red_far {L : Nat → List Nat} {a b : Nat} (h : b ∈ red L a) : far L a b = false := by simpa using (List.mem_filter.1 h).2
theorem tg_red {L : Nat → List Nat} (hL : ∀ a b, b ∈ L a → b < a) : ∀ a c, TG L a c → TG (red L) a c := by
  intro a
  induction a using Nat.strongRecOn with
  | _ a ih =>
    have one : ∀ k b, a - b ≤ k → b ∈ L a → TG (red L) a b := by
      intro k
      induction k with
      | zero => intro b hk hb; have := hL a b hb; omega
      | succ k ihk =>
        intro b hk hb
        cases hf : far L a b with
        | false => exact .one (List.mem_filter.2 ⟨hb, by simp [hf]⟩)
        | true =>
          obtain ⟨d, hd, ht⟩ := far_iff.1 hf
          have h1 := hL a d hd
          have h2 := ht.lt hL
          exact (ihk d (by omega) hd).trans (ih d h1 b ht)
    intro c h
    cases h with
    | one h => exact one _ c (Nat.le_refl _) h
    | more h1 h2 => exact (one _ _ (Nat.le_refl _) h1).trans (ih _ (hL _ _ h1) c h2)
theorem tg_red_iff {L : Nat → List Nat} (hL : ∀ a b, b ∈ L a → b < a) (a c : Nat) : TG (red L) a c ↔ TG L a c := ⟨TG.mono (fun _ _ => red_sub), tg_red hL a c⟩
/-- Warshall's way. -/
def pb (E : List (Nat × Nat)) : Nat → Nat → Nat → Bool
  | 0, i, j => decide (i = j) || E.contains (i, j)
  | k + 1, i, j => pb E k i j || (pb E k i k && pb E k k j)
theorem pb_ik (E : List (Nat × Nat)) (k i : Nat) : pb E (k + 1) i k = pb E k i k := by
  simp only [pb]
  cases pb E k i k <;> simp
theorem pb_kj (E : List (Nat × Nat)) (k j : Nat) : pb E (k + 1) k j = pb E k k j := by
  simp only [pb]
  cases pb E k k j <;> simp
theorem pb_through (E : List (Nat × Nat)) : ∀ k m i j, m < k → pb E k i m = true → pb E k m j = true → pb E k i j = true := by
  intro k
  induction k with
  | zero => intro m i j h; omega
  | succ k ih =>
    intro m i j hm h1 h2
    by_cases e : m = k
    · subst e
      rw [pb_ik] at h1
      rw [pb_kj] at h2
      simp [pb, h1, h2]
    · have hm' : m < k := by omega
      simp only [pb, Bool.or_eq_true, Bool.and_eq_true] at h1 h2 ⊢
      rcases h1 with h1 | ⟨h1, h1'⟩ <;> rcases h2 with h2 | ⟨h2, h2'⟩
      · exact .inl (ih m i j hm' h1 h2)
      · exact .inr ⟨ih m i k hm' h1 h2, h2'⟩
      · exact .inr ⟨h1, ih m k j hm' h1' h2⟩
      · exact .inr ⟨h1, h2'⟩
theorem pb_mono (E : List (Nat × Nat)) {i j : Nat} : ∀ k, pb E 0 i j = true → pb E k i j = true
  | 0, h => h
  | k + 1, h => by simp [pb, pb_mono E k h]
/-- Lists of what each needs, and edges. -/
def Fits (E : List (Nat × Nat)) (L : Nat → List Nat) : Prop := ∀ a b, (a, b) ∈ E ↔ b ∈ L a
theorem pb_sound {E : List (Nat × Nat)} {L : Nat → List Nat} (h : Fits E L) : ∀ k i j, pb E k i j = true → i = j ∨ TG L i j := by
  intro k
  induction k with
  | zero =>
    intro i j hp
    simp only [pb, Bool.or_eq_true, decide_eq_true_eq, List.contains_iff_mem] at hp
    rcases hp with q | q
    · exact .inl q
    · exact .inr (.one ((h i j).1 q))
  | succ k ih =>
    intro i j hp
    simp only [pb, Bool.or_eq_true, Bool.and_eq_true] at hp
    rcases hp with q | ⟨q, r⟩
    · exact ih i j q
    · rcases ih i k q with rfl | s
      · exact ih i j r
      · rcases ih k j r with rfl | t
        · exact .inr s
        · exact .inr (s.trans t)
theorem pb_full {E : List (Nat × Nat)} {L : Nat → List Nat} (h : Fits E L) {N : Nat} (hN : ∀ a b, b ∈ L a → b < N) {i j : Nat} (hp : TG L i j) : pb E N i j = true := by
  have e : ∀ {a b}, b ∈ L a → pb E N a b = true := fun {a b} hb => pb_mono E N (by simp [pb, (h a b).2 hb])
  induction hp with
  | one hb => exact e hb
  | more hb _ ih => exact pb_through E N _ _ _ (hN _ _ hb) (e hb) ih
theorem pb_iff {E : List (Nat × Nat)} {L : Nat → List Nat} (h : Fits E L) {N : Nat} (hN : ∀ a b, b ∈ L a → b < N) (i j : Nat) : pb E N i j = true ↔ i = j ∨ TG L i j := by
  constructor
  · exact pb_sound h N i j
  · rintro (rfl | q)
    · exact pb_mono E N (by simp [pb])
    · exact pb_full h hN q
/-- Both reach the same. -/
theorem pb_red {E R : List (Nat × Nat)} {L : Nat → List Nat} (hL : ∀ a b, b ∈ L a → b < a) (h : Fits E L) (hr : Fits R (red L)) {N : Nat} (hN : ∀ a b, b ∈ L a → b < N) (i j : Nat) : pb R N i j = pb E N i j := by
  rw [Bool.eq_iff_iff, pb_iff h hN, pb_iff hr (fun a b hb => hN a b (red_sub hb)), tg_red_iff hL]
/-- Without one edge less is reached. -/
theorem pb_less {R S : List (Nat × Nat)} {L : Nat → List Nat} (hL : ∀ a b, b ∈ L a → b < a) (hr : Fits R (red L)) {N : Nat} {a b : Nat} (hab : (a, b) ∈ R) (hs : ∀ e ∈ S, e ∈ R ∧ e ≠ (a, b)) : pb S N a b = false := by
  have hb : b ∈ red L a := (hr a b).1 hab
  have hf : Fits S (fun x => (S.filter fun e => e.1 == x).map (·.2)) := fun x y => by
    constructor
    · intro q
      exact List.mem_map.2 ⟨(x, y), List.mem_filter.2 ⟨q, by simp⟩, rfl⟩
    · intro q
      obtain ⟨⟨u, v⟩, q1, q2⟩ := List.mem_map.1 q
      obtain ⟨q3, q4⟩ := List.mem_filter.1 q1
      simp at q4 q2
      subst q4 q2
      exact q3
  have sub : ∀ x y, y ∈ (S.filter fun e => e.1 == x).map (·.2) → y ∈ L x := fun x y q => red_sub ((hr x y).1 (hs _ ((hf x y).2 q)).1)
  cases hp : pb S N a b with
  | false => rfl
  | true =>
    exfalso
    rcases pb_sound hf N a b hp with e | t
    · have := hL a b (red_sub hb); omega
    · have hfar := red_far hb
      cases t with
      | one q => exact (hs _ ((hf a b).2 q)).2 rfl
      | more q t =>
        have : far L a b = true := far_iff.2 ⟨_, sub _ _ q, t.mono sub⟩
        rw [this] at hfar
        cases hfar
/-- An order: all nodes, each behind what it needs. -/
structure Top (L : Nat → List Nat) (N : Nat) (o : List Nat) : Prop where
  nd : o.Nodup
  all : ∀ v, v < N → v ∈ o
  lt : ∀ v ∈ o, v < N
  up : ∀ p v q, o = p ++ v :: q → ∀ b ∈ L v, b ∈ p
/-- Nodes put into their order: what stands, what may come, how many needs of each are missing. -/
structure Kn (L : Nat → List Nat) (N : Nat) (o F : List Nat) (M : Nat → Nat) : Prop where
  nd : (o ++ F).Nodup
  lt : ∀ v ∈ o ++ F, v < N
  ms : ∀ v, v < N → M v = ((L v).filter fun b => !o.contains b).length
  zr : ∀ v, v < N → (v ∈ o ++ F ↔ M v = 0)
  up : ∀ p v q, o = p ++ v :: q → ∀ b ∈ L v, b ∈ p
theorem Kn.end {L : Nat → List Nat} {N : Nat} {o : List Nat} {M : Nat → Nat} (h : Kn L N o [] M) (hL : ∀ a b, b ∈ L a → b < a) : Top L N o := by
  refine ⟨by simpa using h.nd, ?_, fun v hv => h.lt v (by simpa using hv), h.up⟩
  intro v
  induction v using Nat.strongRecOn with
  | _ v ih =>
    intro hv
    have h0 : M v = 0 := by
      rw [h.ms v hv, List.length_eq_zero_iff, List.filter_eq_nil_iff]
      intro b hb
      have := ih b (hL v b hb) (by have := hL v b hb; omega)
      simp [this]
    simpa using (h.zr v hv).2 h0
theorem Top.len {L : Nat → List Nat} {N : Nat} {o : List Nat} (h : Top L N o) : o.length = N := by
  have p : o.Perm (List.range N) := (List.perm_ext_iff_of_nodup h.nd List.nodup_range).2 fun v => by
    rw [List.mem_range]
    exact ⟨h.lt v, h.all v⟩
  rw [p.length_eq, List.length_range]
/-- One comes out; the needs of those that need it: how far that is. -/
structure Kp (L : Nat → List Nat) (N : Nat) (o F : List Nat) (M : Nat → Nat) (rest : List Nat) : Prop where
  nd : (o ++ F).Nodup
  lt : ∀ v ∈ o ++ F, v < N
  ms : ∀ v, v < N → M v = ((L v).filter fun b => !o.contains b).length + (if v ∈ rest then 1 else 0)
  zr : ∀ v, v < N → (v ∈ o ++ F ↔ M v = 0)
  up : ∀ p v q, o = p ++ v :: q → ∀ b ∈ L v, b ∈ p
theorem filter_one {l : List Nat} (hl : l.Nodup) {o : List Nat} {v : Nat} (hv : v ∉ o) : (l.filter fun b => !o.contains b).length = (l.filter fun b => !(o ++ [v]).contains b).length + (if v ∈ l then 1 else 0) := by
  induction l with
  | nil => simp
  | cons x l ih =>
    have hx := List.nodup_cons.1 hl
    have ih := ih hx.2
    by_cases e : x = v
    · subst e
      have : (l.filter fun b => !o.contains b) = (l.filter fun b => !(o ++ [x]).contains b) := List.filter_congr fun b hb => by
        have : b ≠ x := fun q => hx.1 (q ▸ hb)
        simp [this]
      simp [hv, hx.1] at ih ⊢
      simpa using congrArg List.length this
    · have e' : ¬ v = x := fun q => e q.symm
      by_cases ho : x ∈ o
      · simp [ho, e'] at ih ⊢
        exact ih
      · simp [ho, e, e'] at ih ⊢
        omega
theorem Kn.pop {L : Nat → List Nat} {N : Nat} {o F F' : List Nat} {M : Nat → Nat} {v : Nat} (h : Kn L N o F M) (hp : F.Perm (v :: F')) (hn : ∀ a, (L a).Nodup) (rest : List Nat) (hr : ∀ w, w < N → (w ∈ rest ↔ v ∈ L w)) : Kp L N (o ++ [v]) F' M rest := by
  have pe : ((o ++ [v]) ++ F').Perm (o ++ F) := by
    rw [List.append_assoc]
    exact (List.Perm.refl o).append hp.symm
  have vn : v < N := h.lt v (List.mem_append.2 (.inr (hp.mem_iff.2 (by simp))))
  have vF : v ∈ o ++ F := List.mem_append.2 (.inr (hp.mem_iff.2 (by simp)))
  have vo : v ∉ o := fun q => by
    have := (List.nodup_append.1 h.nd).2.2 v q v (hp.mem_iff.2 (by simp))
    exact this rfl
  refine ⟨pe.nodup_iff.2 h.nd, fun w hw => h.lt w (pe.mem_iff.1 hw), fun w hw => ?_, fun w hw => (pe.mem_iff).trans (h.zr w hw), ?_⟩
  · rw [h.ms w hw, filter_one (hn w) vo]
    simp [hr w hw]
  · intro p w q e b hb
    rcases q.eq_nil_or_concat with hq | ⟨q', x, hq⟩
    · subst hq
      obtain ⟨e1, e2⟩ := List.append_inj' e rfl
      have e2 := (List.cons.inj e2).1
      subst e1 e2
      have h0 := (h.zr v vn).1 vF
      rw [h.ms v vn, List.length_eq_zero_iff, List.filter_eq_nil_iff] at h0
      simpa using h0 b hb
    · subst hq
      have e' : o ++ [v] = (p ++ w :: q') ++ [x] := by rw [e]; simp
      obtain ⟨e1, -⟩ := List.append_inj' e' rfl
      exact h.up p w q' e1 b hb
theorem Kp.step {L : Nat → List Nat} {N : Nat} {o F : List Nat} {M M' : Nat → Nat} {w : Nat} {rest : List Nat} (h : Kp L N o F M (w :: rest)) (hn : (w :: rest).Nodup) (hw : w < N) (h1 : M' w = M w - 1) (h2 : ∀ v, v < N → v ≠ w → M' v = M v) :
    1 ≤ M w ∧ (M' w ≠ 0 → Kp L N o F M' rest) ∧ (M' w = 0 → Kp L N o (F ++ [w]) M' rest) := by
  have wr := (List.nodup_cons.1 hn).1
  have hm : M w = ((L w).filter fun b => !o.contains b).length + 1 := by rw [h.ms w hw]; simp
  have ms : ∀ v, v < N → M' v = ((L v).filter fun b => !o.contains b).length + (if v ∈ rest then 1 else 0) := fun v hv => by
    by_cases e : v = w
    · subst e
      rw [h1, hm]
      simp [wr]
    · rw [h2 v hv e, h.ms v hv]
      simp [e]
  have wn : w ∉ o ++ F := fun q => by have := (h.zr w hw).1 q; omega
  refine ⟨by omega, fun q => ⟨h.nd, h.lt, ms, fun v hv => ?_, h.up⟩, fun q => ⟨?_, fun v hv => ?_, ms, fun v hv => ?_, h.up⟩⟩
  · by_cases e : v = w
    · subst e
      exact ⟨fun r => absurd r wn, fun r => absurd r q⟩
    · rw [h2 v hv e]
      exact h.zr v hv
  · rw [← List.append_assoc, List.nodup_append]
    refine ⟨h.nd, by simp, fun x hx y hy e => ?_⟩
    have : y = w := by simpa using hy
    subst this e
    exact wn hx
  · rw [← List.append_assoc] at hv
    rcases List.mem_append.1 hv with r | r
    · exact h.lt v r
    · have : v = w := by simpa using r
      omega
  · rw [← List.append_assoc, List.mem_append]
    by_cases e : v = w
    · subst e
      simp [q]
    · rw [h2 v hv e, ← h.zr v hv]
      simp [e]
theorem Kp.perm {L : Nat → List Nat} {N : Nat} {o F F' : List Nat} {M : Nat → Nat} {rest : List Nat} (h : Kp L N o F M rest) (hp : F'.Perm F) : Kp L N o F' M rest := by
  have pe : (o ++ F').Perm (o ++ F) := (List.Perm.refl o).append hp
  exact ⟨pe.nodup_iff.2 h.nd, fun v hv => h.lt v (pe.mem_iff.1 hv), h.ms, fun v hv => pe.mem_iff.trans (h.zr v hv), h.up⟩
theorem Kp.done {L : Nat → List Nat} {N : Nat} {o F : List Nat} {M : Nat → Nat} (h : Kp L N o F M []) : Kn L N o F M := ⟨h.nd, h.lt, fun v hv => by rw [h.ms v hv]; simp, h.zr, h.up⟩
/-- At first: those that need nothing. -/
structure Kf (L : Nat → List Nat) (N k : Nat) (F : List Nat) (M : Nat → Nat) : Prop where
  nd : F.Nodup
  ms : ∀ v, v < k → M v = (L v).length
  zr : ∀ v, v ∈ F ↔ v < k ∧ (L v).length = 0
theorem Kf.zero (L : Nat → List Nat) (N : Nat) (M : Nat → Nat) : Kf L N 0 [] M := ⟨by simp, fun v h => by omega, fun v => by simp⟩
theorem Kf.step {L : Nat → List Nat} {N k : Nat} {F F' : List Nat} {M M' : Nat → Nat} (h : Kf L N k F M) (h1 : M' k = (L k).length) (h2 : ∀ v, v ≠ k → M' v = M v) (hF : F'.Perm (if (L k).length = 0 then F ++ [k] else F)) : Kf L N (k + 1) F' M' := by
  have kF : k ∉ F := fun q => by have := (h.zr k).1 q; omega
  refine ⟨hF.nodup_iff.2 ?_, fun v hv => ?_, fun v => ?_⟩
  · split
    · rw [List.nodup_append]
      refine ⟨h.nd, by simp, fun x hx y hy e => ?_⟩
      have : y = k := by simpa using hy
      subst this e
      exact kF hx
    · exact h.nd
  · by_cases e : v = k
    · subst e; exact h1
    · rw [h2 v e, h.ms v (by omega)]
  · rw [hF.mem_iff]
    split
    · rename_i h0
      rw [List.mem_append, h.zr v, List.mem_singleton]
      by_cases e : v = k
      · subst e; simp [h0]
      · constructor
        · rintro (q | q)
          · exact ⟨by omega, q.2⟩
          · exact absurd q e
        · intro q
          exact .inl ⟨by omega, q.2⟩
    · rename_i h0
      rw [h.zr v]
      by_cases e : v = k
      · subst e; simp [h0]
      · constructor
        · intro q; exact ⟨by omega, q.2⟩
        · intro q; exact ⟨by omega, q.2⟩
theorem Kf.kn {L : Nat → List Nat} {N : Nat} {F : List Nat} {M : Nat → Nat} (h : Kf L N N F M) : Kn L N [] F M := by
  refine ⟨by simpa using h.nd, fun v hv => ?_, fun v hv => ?_, fun v hv => ?_, fun p v q e => by cases p <;> cases e⟩
  · exact ((h.zr v).1 (by simpa using hv)).1
  · rw [h.ms v hv]
    congr 1
    exact (List.filter_eq_self.2 (by simp)).symm
  · rw [h.ms v hv, List.nil_append, h.zr v]
    simp [hv]
end Go.Proofs.Ytgedmfcfhdfoeaa.Gl
