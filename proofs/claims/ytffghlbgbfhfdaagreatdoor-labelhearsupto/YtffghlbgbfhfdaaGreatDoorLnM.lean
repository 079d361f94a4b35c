/- Fingers' texts by their parts: what stands between colons. -/
import Derived.Test.YtffghlbgbfhfdaaGreatDoorFg7
import Derived.Test.YtffghlbgbfhfdaaGreatDoorLnS
import Derived.Lib.Atoi
namespace Go.Proofs.YtffghlbgbfhfdaaGreatDoor
open Go.RowKit Go.Shelf Go.Sort
/-- Texts, each with a colon ahead of it. -/
def fl (ps : List (List UInt8)) : List UInt8 := ps.flatMap fun q => 58 :: q
theorem fl_nil : fl [] = [] := rfl
theorem fl_cons (q : List UInt8) (r : List (List UInt8)) : fl (q :: r) = 58 :: (q ++ fl r) := by simp [fl]
theorem fl_app (a b : List (List UInt8)) : fl (a ++ b) = fl a ++ fl b := by simp [fl]
theorem pre_no : ∀ (p : List UInt8) (r : List UInt8), (58 : UInt8) ∉ p → pre 58 (p ++ 58 :: r) = p
  | [], r, _ => by simp [pre]
  | x :: p, r, h => by
    have h1 : x ≠ 58 := fun e => h (by simp [e])
    have h2 : (58 : UInt8) ∉ p := fun e => h (by simp [e])
    rw [List.cons_append, pre, if_neg (by simpa using h1), pre_no p r h2]
theorem pre_all : ∀ (p : List UInt8), (58 : UInt8) ∉ p → pre 58 p = p
  | [], _ => rfl
  | x :: p, h => by
    have h1 : x ≠ 58 := fun e => h (by simp [e])
    have h2 : (58 : UInt8) ∉ p := fun e => h (by simp [e])
    rw [pre, if_neg (by simpa using h1), pre_all p h2]
theorem fl_inj : ∀ (ps qs : List (List UInt8)) (p q : List UInt8), (58 : UInt8) ∉ p → (58 : UInt8) ∉ q → (∀ x ∈ ps, (58 : UInt8) ∉ x) → (∀ x ∈ qs, (58 : UInt8) ∉ x) → p ++ fl ps = q ++ fl qs → p = q ∧ ps = qs
  | [], [], p, q, _, _, _, _, h => by simpa [fl] using h
  | [], y :: qs, p, q, hp, hq, _, _, h => by
    rw [fl_nil, List.append_nil, fl_cons] at h
    exact absurd (by rw [h]; simp) hp
  | x :: ps, [], p, q, hp, hq, _, _, h => by
    rw [fl_nil, List.append_nil, fl_cons] at h
    exact absurd (by rw [← h]; simp) hq
  | x :: ps, y :: qs, p, q, hp, hq, h1, h2, h => by
    rw [fl_cons, fl_cons] at h
    have e1 := congrArg (pre 58) h
    rw [pre_no _ _ hp, pre_no _ _ hq] at e1
    subst e1
    have e2 := List.append_cancel_left h
    obtain ⟨e3, e4⟩ := fl_inj ps qs x y (h1 x (by simp)) (h2 y (by simp)) (fun z hz => h1 z (by simp [hz])) (fun z hz => h2 z (by simp [hz])) (List.cons.inj e2).2
    exact ⟨rfl, by rw [e3, e4]⟩
/-- The last colon. -/
theorem last_inj (a b m n : List UInt8) (hm : (58 : UInt8) ∉ m) (hn : (58 : UInt8) ∉ n) (h : a ++ 58 :: m = b ++ 58 :: n) : a = b ∧ m = n := by
  have e := congrArg List.reverse h
  rw [List.reverse_append, List.reverse_cons, List.reverse_append, List.reverse_cons, List.append_assoc, List.append_assoc] at e
  have e1 := congrArg (pre 58) e
  have hm' : (58 : UInt8) ∉ m.reverse := by simpa using hm
  have hn' : (58 : UInt8) ∉ n.reverse := by simpa using hn
  rw [List.singleton_append, List.singleton_append, pre_no _ _ hm', pre_no _ _ hn'] at e1
  have e2 : m = n := by simpa using e1
  subst e2
  exact ⟨List.append_cancel_right h, rfl⟩

def bl (s : ByteArray) : List UInt8 := s.data.toList
theorem bl_app (a b : ByteArray) : bl (a ++ b) = bl a ++ bl b := by unfold bl; rw [ByteArray.data_append]; simp
theorem bl_len (a : ByteArray) : (bl a).length = a.size := Array.length_toList
theorem bl_inj {a b : ByteArray} (h : bl a = bl b) : a = b := by
  apply ByteArray.ext
  exact Array.toList_inj.1 h
theorem ofL_bl (a : ByteArray) : ofL (bl a) = a := rfl
theorem bl_at (s : ByteArray) (j : Nat) (h : j < s.size) : (bl s)[j]? = some (UInt8.ofNat (byt s j)) := by
  have h1 : j < (bl s).length := by rw [bl_len]; exact h
  rw [List.getElem?_eq_getElem h1, ← byt_at s j h]
  simp [bl]
  rfl
theorem nc_of {s : ByteArray} (h : ∀ j, j < s.size → byt s j ≠ 58) : (58 : UInt8) ∉ bl s := by
  intro hm
  obtain ⟨j, hj, he⟩ := List.mem_iff_getElem.1 hm
  rw [bl_len] at hj
  have h1 := bl_at s j hj
  rw [List.getElem?_eq_getElem (by rw [bl_len]; exact hj), he] at h1
  have h2 := congrArg UInt8.toNat (Option.some.inj h1)
  rw [UInt8.toNat_ofNat', Nat.mod_eq_of_lt (byt_lt s j)] at h2
  exact h j hj h2.symm
theorem badAt_none (s : ByteArray) : ∀ f i, badAt s f i = none → ∀ j, i ≤ j → j < i + f → j < s.size → mayN (byt s j) = true
  | 0, i, _, j, h1, h2, _ => by omega
  | f + 1, i, h, j, h1, h2, h3 => by
    rw [badAt, if_pos (by omega)] at h
    by_cases hm : mayN (byt s i) = true
    · rw [if_pos hm] at h
      by_cases hj : j = i
      · rw [hj]; exact hm
      · exact badAt_none s f (i + 1) h j (by omega) (by omega) h3
    · rw [if_neg hm] at h
      cases h
theorem okN_may {s : ByteArray} (h : okN s = 0) (j : Nat) (hj : j < s.size) : mayN (byt s j) = true := by
  unfold okN checkN at h
  split at h
  · cases h
  · split at h
    · cases h
    · split at h
      · cases h
      · rename_i hb
        exact badAt_none s _ 0 hb j (by omega) (by omega) hj
theorem okN_nc {s : ByteArray} (h : okN s = 0) : (58 : UInt8) ∉ bl s := nc_of fun j hj e => by
  have := okN_may h j hj
  rw [e] at this
  exact absurd this (by decide)
theorem g32_nc : ∀ k : Fin 32, g32 k.val ≠ 58 := by decide +kernel
theorem b32_nc (h : List Nat) : (58 : UInt8) ∉ bl (str (b32L h)) := nc_of fun j hj => by
  rw [str_size, b32L_len] at hj
  rw [byt_str _ (b32L_byt h) _ (by rw [b32L_len]; exact hj), b32L_at _ _ hj]
  exact g32_nc ⟨_, d32_lt _ _ _⟩
/-- A label's text. -/
def prS (x : Lb) : ByteArray := store ++ baseS x.h x.s
def prT (x : Lb) : List UInt8 := bl (prS x)
def selfW : ByteArray := ⟨#[115, 101, 108, 102]⟩
def tlP (f : Fg) : List (List UInt8) := (if f.self then [bl selfW] else []) ++ (if f.k = 3 then [bl f.out] else if f.k = 4 then [bl (itoaT f.ix.toNat)] else [])
theorem prT_nc {x : Lb} (h : okN x.s = 0) : (58 : UInt8) ∉ prT x := by
  unfold prT prS baseS
  rw [bl_app, bl_app, bl_app]
  simp only [List.mem_append, not_or]
  exact ⟨by decide, ⟨b32_nc _, by decide⟩, okN_nc h⟩
theorem itoa_nc : ∀ i : Fin 64, (58 : UInt8) ∉ Lib.decDigits i.val := by decide +kernel
theorem itoaT_bl (i : Nat) : bl (itoaT i) = Lib.decDigits i := by simp [bl, itoaT]
theorem itoaT_nc (i : Nat) (h : i < 64) : (58 : UInt8) ∉ bl (itoaT i) := by rw [itoaT_bl]; exact itoa_nc ⟨i, h⟩
theorem atoi_itoa' : ∀ i : Fin 64, Lib.atoi (Lib.decDigits i.val) = some (i.val : Int) := by decide +kernel
theorem atoi_itoa (i : Nat) (h : i < 64) : Lib.atoi (bl (itoaT i)) = some (i : Int) := by rw [itoaT_bl]; exact atoi_itoa' ⟨i, h⟩
theorem refsT_bl : ∀ M : List Lb, bl (refsT M) = fl (M.map prT)
  | [] => rfl
  | x :: r => by
    rw [refsT, bl_app, refsT_bl r, List.map_cons, fl_cons]
    have : bl (refT x) = 58 :: prT x := by
      unfold refT prT prS
      rw [bl_app, bl_app]
      rfl
    rw [this]
    simp
theorem tlT_bl (f : Fg) : bl (tlT f) = fl (tlP f) := by
  unfold tlT tlP
  rw [bl_app, fl_app]
  congr 1
  · cases f.self
    · rfl
    · rfl
  · split
    · rw [bl_app, fl_cons]; simp [fl_nil]; rfl
    · split
      · rw [bl_app, fl_cons]; simp [fl_nil]; rfl
      · rfl
theorem head_bl (f : Fg) : bl (headT f) = bl (kwV f.k) ++ fl ((dd (srt f.L)).map prT ++ tlP f) := by
  unfold headT
  rw [bl_app, bl_app, refsT_bl, tlT_bl, fl_app, List.append_assoc]
theorem kwV_nc (k : Int) : (58 : UInt8) ∉ bl (kwV k) := by
  unfold kwV
  split
  · decide
  · split
    · decide
    · split <;> decide
theorem kwV_inj {j k : Int} (h1 : 1 ≤ j ∧ j ≤ 4) (h2 : 1 ≤ k ∧ k ≤ 4) (h : bl (kwV j) = bl (kwV k)) : j = k := by
  have c1 : j = 1 ∨ j = 2 ∨ j = 3 ∨ j = 4 := by omega
  have c2 : k = 1 ∨ k = 2 ∨ k = 3 ∨ k = 4 := by omega
  rcases c1 with rfl | rfl | rfl | rfl <;> rcases c2 with rfl | rfl | rfl | rfl <;> first | rfl | (exfalso; revert h; decide)
theorem tlP_nc {f : Fg} (ok : Ok f) : ∀ p ∈ (dd (srt f.L)).map prT ++ tlP f, (58 : UInt8) ∉ p := by
  intro p hp
  rcases List.mem_append.1 hp with hp | hp
  · obtain ⟨x, hx, rfl⟩ := List.mem_map.1 hp
    exact prT_nc ((dd_ok ok).2 x hx).1
  · unfold tlP at hp
    rcases List.mem_append.1 hp with hp | hp
    · split at hp
      · rw [List.mem_singleton.1 hp]; decide
      · cases hp
    · split at hp
      · rename_i h3
        rw [List.mem_singleton.1 hp]; exact okN_nc (ok.out h3)
      · split at hp
        · rw [List.mem_singleton.1 hp]; exact itoaT_nc _ (by have := ok.i0; have := ok.i6; omega)
        · cases hp
/-- What its kind does not use is not there. -/
theorem un_facts {f : Fg} (ok : Ok f) : (f.k ≠ 1 ∧ f.k ≠ 2 → f.L = []) ∧ (f.k ≠ 2 → f.self = false) ∧ (f.k ≠ 3 → f.out = ⟨#[]⟩) ∧ (f.k ≠ 4 → f.ix = 0) := by
  have h := ok.un
  unfold unV at h
  simp only [Bool.or_eq_false_iff, Bool.and_eq_false_imp, decide_eq_true_eq, decide_eq_false_iff_not] at h
  obtain ⟨⟨⟨h1, h2⟩, h3⟩, h4⟩ := h
  refine ⟨fun q => List.length_eq_zero_iff.1 (by have := h1 q; omega), fun q => by simpa using h2 q, fun q => ?_, fun q => by simpa using h4 q⟩
  have := h3 q
  apply bl_inj
  apply List.length_eq_zero_iff.1
  rw [bl_len]
  omega
theorem str_inj {a b : List Nat} (ha : Byt a) (hb : Byt b) (h : str a = str b) : a = b := by
  have hl : a.length = b.length := by rw [← str_size, ← str_size, h]
  apply List.ext_getElem hl
  intro i h1 h2
  have e1 := byt_str a ha i h1
  have e2 := byt_str b hb i h2
  rw [h, e2] at e1
  have d1 : a.getD i 0 = a[i] := by simp [List.getD, h1]
  have d2 : b.getD i 0 = b[i] := by simp [List.getD, h2]
  rw [d1, d2] at e1
  exact e1.symm
theorem prT_inj {x y : Lb} (hx : Byt x.h) (hy : Byt y.h) (h : prT x = prT y) : x = y := by
  unfold prT prS baseS at h
  rw [bl_app, bl_app, bl_app, bl_app, bl_app, bl_app] at h
  have h1 := List.append_cancel_left h
  rw [List.append_assoc, List.append_assoc] at h1
  obtain ⟨ux1, ux2, ux3⟩ := un_text x.h hx x.hl
  obtain ⟨uy1, uy2, uy3⟩ := un_text y.h hy y.hl
  have h2 := List.append_inj h1 (by rw [bl_len, bl_len, ux3, uy3])
  have e1 : str (b32L x.h) = str (b32L y.h) := bl_inj h2.1
  have e2 : x.h = y.h := by rw [← ux2, ← uy2, e1]
  have e3 : x.s = y.s := bl_inj (List.append_cancel_left h2.2)
  exact Lb.ext' e2 e3
theorem g16_inj : ∀ a b : Fin 16, g16 a.val = g16 b.val → a = b := by decide +kernel
theorem hexL_inj : ∀ a b : List Nat, Byt a → Byt b → hexL a = hexL b → a = b
  | [], [], _, _, _ => rfl
  | [], y :: b, _, _, h => by simp [hexL] at h
  | x :: a, [], _, _, h => by simp [hexL] at h
  | x :: a, y :: b, ha, hb, h => by
    simp only [hexL, List.cons.injEq] at h
    have hx : x < 256 := ha x (by simp)
    have hy : y < 256 := hb y (by simp)
    have e1 := congrArg Fin.val (g16_inj ⟨x / 16, by omega⟩ ⟨y / 16, by omega⟩ h.1)
    have e2 := congrArg Fin.val (g16_inj ⟨x % 16, by omega⟩ ⟨y % 16, by omega⟩ h.2.1)
    simp only at e1 e2
    have e3 : x = y := by omega
    rw [e3, hexL_inj a b (fun z hz => ha z (by simp [hz])) (fun z hz => hb z (by simp [hz])) h.2.2]
theorem map_inj {A B : List Lb} (hA : ∀ x ∈ A, Byt x.h) (hB : ∀ x ∈ B, Byt x.h) (h : A.map prT = B.map prT) : A = B := by
  induction A generalizing B with
  | nil => cases B with
    | nil => rfl
    | cons y r => simp at h
  | cons x a ih => cases B with
    | nil => simp at h
    | cons y r =>
      simp only [List.map_cons, List.cons.injEq] at h
      rw [prT_inj (hA x (by simp)) (hB y (by simp)) h.1, ih (fun z hz => hA z (by simp [hz])) (fun z hz => hB z (by simp [hz])) h.2]
theorem prT_self (x : Lb) : prT x ≠ bl selfW := by
  intro h
  unfold prT prS at h
  rw [bl_app] at h
  have := congrArg List.head? h
  revert this
  show some 47 = some 115 → False
  decide
end Go.Proofs.YtffghlbgbfhfdaaGreatDoor
