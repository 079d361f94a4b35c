/- Ways: their bytes. -/
import Derived.Test.YtmfkhpledgnipaaDoorSteps
import Derived.Test.YtmfkhpledgnipaaDoorWorks
namespace Go.Proofs.YtmfkhpledgnipaaDoor
open Go.RowKit
def noB (c : UInt8) (l : List UInt8) : Prop := ∀ b ∈ l, b ≠ c
def hd47 (l : List UInt8) : Prop := l = [] ∨ ∃ r, l = 47 :: r
theorem pre_app : ∀ (l r : List UInt8), noB 47 l → hd47 r → pre 47 (l ++ r) = l
  | [], r, _, h => by rcases h with rfl | ⟨q, rfl⟩ <;> simp [pre]
  | b :: l, r, hl, h => by
    have hb : (b == 47) = false := by simpa using hl b (by simp)
    have ih := pre_app l r (fun x hx => hl x (by simp [hx])) h
    simp only [List.cons_append, pre, hb, ih]
    rfl
theorem pre_no (c : UInt8) : ∀ l : List UInt8, (¬ (pre c l).length < l.length) ↔ noB c l
  | [] => by simp [noB]
  | b :: l => by
    have ih := pre_no c l
    unfold pre
    by_cases h : (b == c) = true
    · rw [if_pos h]
      constructor
      · intro h2; simp at h2
      · intro h2; exact absurd (beq_iff_eq.1 h) (h2 b (by simp))
    · rw [if_neg h]
      simp only [List.length_cons, Nat.add_lt_add_iff_right]
      rw [ih]
      constructor
      · intro h2 x hx
        rcases List.mem_cons.1 hx with rfl | hx
        · intro e; exact h (beq_iff_eq.2 e)
        · exact h2 x hx
      · intro h2 x hx; exact h2 x (by simp [hx])
/-- What the law asks of a step. -/
def okH (l : List UInt8) : Bool := decide (0 < l.length) && decide (l.length < 256) && !(l == [46]) && !(l == [46, 46])
def okB (l : List UInt8) : Bool := l.all fun b => b != 0 && b != 47
def okT (l : List UInt8) : Bool := okH l && okB l
theorem okT_parts {l : List UInt8} (h : okT l = true) : okS l = true ∧ noB 47 l ∧ l.length ≤ 255 := by
  unfold okT okH okB at h
  simp only [Bool.and_eq_true, decide_eq_true_eq, Bool.not_eq_true', List.all_eq_true, bne_iff_ne] at h
  obtain ⟨⟨⟨⟨h1, h2⟩, h3⟩, h4⟩, h5⟩ := h
  refine ⟨?_, fun b hb => (h5 b hb).2, by omega⟩
  unfold okS
  refine decide_eq_true ⟨fun e => by subst e; simp at h1, fun e => by subst e; simp at h3, fun e => by subst e; simp at h4, by omega, (pre_no 0 l).2 fun b hb => (h5 b hb).1⟩
def Bad (bt : List UInt8) : Prop := okS bt = false ∧ noB 47 bt ∧ bt.length ≤ 2
/-- What the law takes for a step. -/
def txB (bt t : List UInt8) : List UInt8 := if okT t = true then t else bt
def way (bt : List UInt8) (d : List (List UInt8)) : List UInt8 := d.flatMap fun t => 47 :: txB bt t
theorem way_hd (bt : List UInt8) : ∀ d, hd47 (way bt d)
  | [] => .inl rfl
  | _ :: _ => .inr ⟨_, rfl⟩
theorem way_app (bt : List UInt8) (d e : List (List UInt8)) : way bt (d ++ e) = way bt d ++ way bt e := by simp [way]
theorem way_cons (bt t : List UInt8) (d : List (List UInt8)) : way bt (t :: d) = 47 :: (txB bt t ++ way bt d) := by simp [way]
theorem way_snoc (bt t : List UInt8) (d : List (List UInt8)) : way bt (d ++ [t]) = way bt d ++ 47 :: txB bt t := by simp [way]
theorem txB_len {bt : List UInt8} (hb : Bad bt) (t : List UInt8) : (txB bt t).length ≤ 255 := by
  unfold txB
  split
  · exact (okT_parts ‹_›).2.2
  · have := hb.2.2; omega
theorem way_len {bt : List UInt8} (hb : Bad bt) : ∀ d, (way bt d).length ≤ 256 * d.length
  | [] => by simp [way]
  | t :: d => by
    have := way_len hb d
    have := txB_len hb t
    rw [way_cons]
    simp
    omega
theorem way_ge (bt : List UInt8) : ∀ d : List (List UInt8), d.length ≤ (way bt d).length
  | [] => by simp
  | t :: d => by
    have := way_ge bt d
    rw [way_cons]
    simp
    omega
theorem spl_oks (bt : List UInt8) : ∀ (d : List (List UInt8)) (f k : Nat) (acc : List (List UInt8)) (rest : List UInt8), (∀ t ∈ d, okT t = true) → hd47 rest → d.length ≤ f →
    spl f (way bt d ++ rest) k acc = spl (f - d.length) rest (k + (way bt d).length) (acc ++ d)
  | [], f, k, acc, rest, _, _, _ => by simp [way]
  | t :: d, f, k, acc, rest, hd, hr, hf => by
    obtain ⟨f, rfl⟩ : ∃ g, f = g + 1 := ⟨f - 1, by simp at hf; omega⟩
    have ht := hd t (by simp)
    obtain ⟨h1, h2, h3⟩ := okT_parts ht
    have hx : txB bt t = t := if_pos ht
    have hh : hd47 (way bt d ++ rest) := by
      cases d with
      | nil => simpa [way] using hr
      | cons => exact .inr ⟨_, rfl⟩
    have hp : pre 47 (t ++ (way bt d ++ rest)) = t := pre_app t _ h2 hh
    have ih := spl_oks bt d f (k + 1 + t.length) (acc ++ [t]) rest (fun x hx => hd x (by simp [hx])) hr (by simp at hf; omega)
    rw [way_cons, hx, List.cons_append, List.append_assoc]
    rw [show spl (f + 1) (47 :: (t ++ (way bt d ++ rest))) k acc = if okS (pre 47 (t ++ (way bt d ++ rest))) = true then spl f ((t ++ (way bt d ++ rest)).drop (pre 47 (t ++ (way bt d ++ rest))).length) (k + 1 + (pre 47 (t ++ (way bt d ++ rest))).length) (acc ++ [pre 47 (t ++ (way bt d ++ rest))]) else (acc, some (k + 1)) from rfl]
    rw [hp, if_pos h1, List.drop_left, ih]
    have e1 : f + 1 - (t :: d).length = f - d.length := by simp
    have e2 : k + 1 + t.length + (way bt d).length = k + (47 :: (t ++ way bt d)).length := by simp; omega
    rw [e1, e2]
    simp
theorem spl_bad {bt : List UInt8} (hb : Bad bt) (f k : Nat) (acc : List (List UInt8)) (rest : List UInt8) (hr : hd47 rest) : spl (f + 1) (47 :: (bt ++ rest)) k acc = (acc, some (k + 1)) := by
  unfold spl
  rw [pre_app bt rest hb.2.1 hr, if_neg (by rw [hb.1]; decide)]
/-- The place that the law keeps. -/
def Plc (n0 : Nat) (bt : List UInt8) (d : List (List UInt8)) (p : Int) : Prop :=
  ((∀ t ∈ d, okT t = true) ∧ p = -1) ∨ ∃ d1 t d2, d = d1 ++ t :: d2 ∧ (∀ x ∈ d1, okT x = true) ∧ okT t = false ∧ p = ((n0 + (way bt d1).length + 1 : Nat) : Int)
theorem Plc.nil (n0 : Nat) (bt : List UInt8) : Plc n0 bt [] (-1) := .inl ⟨by simp, rfl⟩
theorem Plc.ok {n0 : Nat} {bt : List UInt8} {d : List (List UInt8)} {p : Int} (h : Plc n0 bt d p) {t : List UInt8} (ht : okT t = true) : Plc n0 bt (d ++ [t]) p := by
  rcases h with ⟨h, rfl⟩ | ⟨d1, x, d2, rfl, h1, h2, rfl⟩
  · refine .inl ⟨fun x hx => ?_, rfl⟩
    rcases List.mem_append.1 hx with hx | hx
    · exact h x hx
    · rw [List.mem_singleton.1 hx]; exact ht
  · exact .inr ⟨d1, x, d2 ++ [t], by simp, h1, h2, rfl⟩
theorem Plc.more {n0 : Nat} {bt : List UInt8} {d : List (List UInt8)} {p : Int} (h : Plc n0 bt d p) (hp : ¬ p < 0) (t : List UInt8) : Plc n0 bt (d ++ [t]) p := by
  rcases h with ⟨h, rfl⟩ | ⟨d1, x, d2, rfl, h1, h2, rfl⟩
  · exact absurd (by decide) hp
  · exact .inr ⟨d1, x, d2 ++ [t], by simp, h1, h2, rfl⟩
theorem Plc.bad {n0 : Nat} {bt : List UInt8} {d : List (List UInt8)} {p : Int} (h : Plc n0 bt d p) (hp : p < 0) {t : List UInt8} (ht : okT t = false) : Plc n0 bt (d ++ [t]) ((n0 + (way bt d).length + 1 : Nat) : Int) := by
  rcases h with ⟨h, rfl⟩ | ⟨d1, x, d2, rfl, h1, h2, rfl⟩
  · exact .inr ⟨d, t, [], rfl, h, ht, rfl⟩
  · omega
theorem Plc.spl {n0 : Nat} {bt : List UInt8} (hb : Bad bt) {d : List (List UInt8)} {p : Int} (h : Plc n0 bt d p) :
    (p = -1 ∧ spl (way bt d).length (way bt d) 0 [] = (d, none)) ∨ ∃ acc k, p = ((n0 + k : Nat) : Int) ∧ k ≤ (way bt d).length ∧ spl (way bt d).length (way bt d) 0 [] = (acc, some k) := by
  rcases h with ⟨h, rfl⟩ | ⟨d1, x, d2, rfl, h1, h2, rfl⟩
  · refine .inl ⟨rfl, ?_⟩
    have := spl_oks bt d (way bt d).length 0 [] [] h (.inl rfl) (way_ge bt d)
    rw [List.append_nil, spl_nil] at this
    simpa using this
  · refine .inr ⟨d1, (way bt d1).length + 1, by omega, ?_, ?_⟩
    · rw [way_app, way_cons]; simp
    · have hg := way_ge bt d1
      have hL : (way bt (d1 ++ x :: d2)).length = (way bt d1).length + 1 + (bt ++ way bt d2).length := by
        rw [way_app, way_cons, txB, if_neg (by rw [h2]; decide)]; simp; omega
      have := spl_oks bt d1 (way bt (d1 ++ x :: d2)).length 0 [] (way bt (x :: d2)) h1 (.inr ⟨_, way_cons _ _ _⟩) (by omega)
      rw [← way_app] at this
      rw [this, way_cons, txB, if_neg (by rw [h2]; decide)]
      obtain ⟨f, hf⟩ : ∃ f, (way bt (d1 ++ x :: d2)).length - d1.length = f + 1 := ⟨(way bt (d1 ++ x :: d2)).length - d1.length - 1, by omega⟩
      rw [hf, spl_bad hb _ _ _ _ (way_hd bt d2)]
      simp
theorem okN_may (s : ByteArray) (h : okN s = 0) : ∀ i, i < s.size → mayN (byt s i) = true := by
  unfold okN checkN at h
  split at h
  · exact absurd h (by decide)
  split at h
  · exact absurd h (by decide)
  have key : ∀ f i, badAt s f i = none → ∀ j, i ≤ j → j < i + f → j < s.size → mayN (byt s j) = true := by
    intro f
    induction f with
    | zero => intro i _ j h1 h2; omega
    | succ f ih =>
      intro i hi j h1 h2 h3
      unfold badAt at hi
      rw [if_pos (by omega)] at hi
      by_cases hm : mayN (byt s i) = true
      · rw [if_pos hm] at hi
        by_cases hij : j = i
        · rw [hij]; exact hm
        · exact ih (i + 1) hi j (by omega) (by omega) h3
      · rw [if_neg hm] at hi; exact absurd hi (by simp)
  intro i hi
  cases hbd : badAt s s.size 0 with
  | some i => rw [hbd] at h; simp at h
  | none => exact key _ _ hbd i (by omega) (by omega) hi
theorem noB_of (s : ByteArray) (h : ∀ i, i < s.size → byt s i ≠ 47) : noB 47 s.data.toList := by
  intro b hb e
  obtain ⟨i, hi, rfl⟩ := List.getElem_of_mem hb
  have hi' : i < s.size := by simpa using hi
  refine h i hi' ?_
  rw [← byt_at s i hi']
  have : (s[i]'hi') = 47 := by
    rw [← e]
    show s.data[i] = s.data.toList[i]
    simp
  rw [this]; rfl
theorem g32_no : ∀ k : Fin 32, g32 k.val ≠ 47 := by decide +kernel
theorem noB_app {a b : List UInt8} (ha : noB 47 a) (hb : noB 47 b) : noB 47 (a ++ b) := fun x hx => (List.mem_append.1 hx).elim (ha x) (hb x)
theorem app_list (a b : ByteArray) : (a ++ b).data.toList = a.data.toList ++ b.data.toList := by
  rw [ByteArray.data_append, Array.toList_append]
theorem base_noB (h : List Nat) (nm : ByteArray) (hok : okN nm = 0) : noB 47 (baseS h nm).data.toList := by
  unfold baseS
  rw [app_list, app_list]
  refine noB_app (noB_app (noB_of _ fun i hi => ?_) (by intro b hb; simp [minus] at hb; rw [hb]; decide)) (noB_of _ fun i hi => ?_)
  · rw [str_size] at hi
    rw [byt_str _ (b32L_byt h) i hi, b32L_at h i (by rw [← b32L_len]; exact hi)]
    exact g32_no ⟨_, d32_lt _ _ _⟩
  · intro e
    have := okN_may nm hok i hi
    rw [e] at this
    exact absurd this (by decide)
end Go.Proofs.YtmfkhpledgnipaaDoor
