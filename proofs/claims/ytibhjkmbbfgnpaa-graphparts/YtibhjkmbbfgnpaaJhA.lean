/- Several texts in one: HqM, HqB. -/
import Derived.Test.YtibhjkmbbfgnpaaGlB
import Derived.BigQuiet
/- The heap's order (mathematics). -/
namespace Go.Proofs.Ytibhjkmbbfgnpaa
open Go.RowKit
def swp (F : List Nat) (i j : Nat) : List Nat := (F.set i (F.getD j 0)).set j (F.getD i 0)
theorem swp_get {F : List Nat} {i j : Nat} (hi : i < F.length) (hj : j < F.length) (k : Nat) : (swp F i j).getD k 0 = if k = j then F.getD i 0 else if k = i then F.getD j 0 else F.getD k 0 := by
  unfold swp
  by_cases h1 : k = j
  · subst h1
    simp [List.getD, hj]
  · rw [if_neg h1]
    by_cases h2 : k = i
    · subst h2
      rw [if_pos rfl]
      simp [List.getD, Ne.symm h1, hi]
    · rw [if_neg h2]
      simp [List.getD, Ne.symm h1, Ne.symm h2]
theorem swp_perm {F : List Nat} {i j : Nat} (hi : i < F.length) (hj : j < F.length) : (swp F i j).Perm F := by
  have := List.set_set_perm hi hj
  simpa [swp, List.getD, hi, hj] using this
theorem swp_len (F : List Nat) (i j : Nat) : (swp F i j).length = F.length := by simp [swp]
/-- Each is not less than the one above it. -/
def Hq (F : List Nat) (n : Nat) : Prop := ∀ j, 0 < j → j < n → F.getD ((j - 1) / 2) 0 ≤ F.getD j 0
theorem Hq.root {F : List Nat} {n : Nat} (h : Hq F n) : ∀ j, j < n → F.getD 0 0 ≤ F.getD j 0 := by
  intro j
  induction j using Nat.strongRecOn with
  | _ j ih =>
    intro hj
    by_cases h0 : j = 0
    · subst h0; exact Nat.le_refl _
    · exact Nat.le_trans (ih ((j - 1) / 2) (by omega) (by omega)) (h j (by omega) hj)
theorem Hq.least {F : List Nat} (h : Hq F F.length) {x : Nat} (hx : x ∈ F) : F.getD 0 0 ≤ x := by
  obtain ⟨i, hi, rfl⟩ := List.getElem_of_mem hx
  have := h.root i hi
  simpa [List.getD, hi] using this
theorem Hq.nil (n : Nat) : Hq [] n := fun j _ _ => by simp [List.getD]
/-- All but one. -/
def Uq (F : List Nat) (n k : Nat) : Prop := (∀ j, 0 < j → j < n → j ≠ k → F.getD ((j - 1) / 2) 0 ≤ F.getD j 0) ∧ ∀ j, 0 < k → 0 < j → j < n → (j - 1) / 2 = k → F.getD ((k - 1) / 2) 0 ≤ F.getD j 0
theorem Uq.zero {F : List Nat} {n : Nat} (h : Uq F n 0) : Hq F n := fun j h0 hj => h.1 j h0 hj (by omega)
theorem Uq.end {F : List Nat} {n k : Nat} (h : Uq F n k) (hk : F.getD ((k - 1) / 2) 0 ≤ F.getD k 0) : Hq F n := fun j h0 hj => by
  by_cases e : j = k
  · subst e; exact hk
  · exact h.1 j h0 hj e
theorem Uq.step {F : List Nat} {n k : Nat} (h : Uq F n k) (hn : n = F.length) (h0 : 0 < k) (hk : k < n) (hl : F.getD k 0 < F.getD ((k - 1) / 2) 0) : Uq (swp F ((k - 1) / 2) k) n ((k - 1) / 2) := by
  have hi : (k - 1) / 2 < F.length := by omega
  have hk' : k < F.length := by omega
  refine ⟨fun j j0 jn ji => ?_, fun j i0 j0 jn ji => ?_⟩
  · rw [swp_get hi hk', swp_get hi hk']
    by_cases e : j = k
    · subst e
      rw [if_pos rfl, if_neg (by omega), if_pos rfl]
      omega
    · rw [if_neg e, if_neg ji]
      have q1 := h.1 j j0 jn e
      by_cases e2 : (j - 1) / 2 = k
      · rw [if_pos e2]
        exact h.2 j h0 j0 jn e2
      · rw [if_neg e2]
        by_cases e3 : (j - 1) / 2 = (k - 1) / 2
        · rw [if_pos e3]
          rw [e3] at q1
          omega
        · rw [if_neg e3]
          exact q1
  · rw [swp_get hi hk', swp_get hi hk', if_neg (by omega), if_neg (by omega)]
    have q1 := h.1 ((k - 1) / 2) i0 (by omega) (by omega)
    by_cases e : j = k
    · rw [if_pos e]
      exact q1
    · rw [if_neg e, if_neg (by omega)]
      have q2 := h.1 j j0 jn e
      rw [ji] at q2
      omega
theorem Hq.push {F : List Nat} {n : Nat} (h : Hq F n) (hn : n = F.length) (x : Nat) : Uq (F ++ [x]) (n + 1) n := by
  have g : ∀ j, j < n → (F ++ [x]).getD j 0 = F.getD j 0 := fun j hj => by
    simp [List.getD, List.getElem?_append_left (show j < F.length by omega)]
  refine ⟨fun j j0 jn jk => ?_, fun j k0 j0 jn jk => by omega⟩
  rw [g _ (by omega), g _ (by omega)]
  exact h j j0 (by omega)
/-- All below but one's own. -/
def Dq (F : List Nat) (n i : Nat) : Prop := (∀ j, 0 < j → j < n → (j - 1) / 2 ≠ i → F.getD ((j - 1) / 2) 0 ≤ F.getD j 0) ∧ ∀ j, 0 < i → 0 < j → j < n → (j - 1) / 2 = i → F.getD ((i - 1) / 2) 0 ≤ F.getD j 0
theorem Dq.none {F : List Nat} {n i : Nat} (h : Dq F n i) (hn : n ≤ 2 * i + 1) : Hq F n := fun j h0 hj => h.1 j h0 hj (by omega)
theorem Dq.end {F : List Nat} {n i c : Nat} (h : Dq F n i) (hl : ∀ j, 0 < j → j < n → (j - 1) / 2 = i → F.getD c 0 ≤ F.getD j 0) (hc : F.getD i 0 ≤ F.getD c 0) : Hq F n := fun j h0 hj => by
  by_cases e : (j - 1) / 2 = i
  · rw [e]
    exact Nat.le_trans hc (hl j h0 hj e)
  · exact h.1 j h0 hj e
theorem Dq.step {F : List Nat} {n i c : Nat} (h : Dq F n i) (hn : n ≤ F.length) (c0 : 0 < c) (hcn : c < n) (hci : (c - 1) / 2 = i) (hl : ∀ j, 0 < j → j < n → (j - 1) / 2 = i → F.getD c 0 ≤ F.getD j 0) (hc : F.getD c 0 < F.getD i 0) : Dq (swp F i c) n c := by
  have hi : i < F.length := by omega
  have hc' : c < F.length := by omega
  refine ⟨fun j j0 jn ji => ?_, fun j i0 j0 jn ji => ?_⟩
  · rw [swp_get hi hc', swp_get hi hc', if_neg ji]
    by_cases e : (j - 1) / 2 = i
    · rw [if_pos e]
      by_cases e2 : j = c
      · rw [if_pos e2]; omega
      · rw [if_neg e2, if_neg (by omega)]
        exact hl j j0 jn e
    · rw [if_neg e]
      have e2 : j ≠ c := fun q => e (by rw [q]; exact hci)
      rw [if_neg e2]
      by_cases e3 : j = i
      · rw [if_pos e3]
        subst e3
        exact h.2 c j0 c0 hcn hci
      · rw [if_neg e3]
        exact h.1 j j0 jn e
  · rw [swp_get hi hc', swp_get hi hc', if_neg (by omega), if_pos hci, if_neg (by omega), if_neg (by omega)]
    have := h.1 j j0 jn (by omega)
    rwa [ji] at this
theorem swp_far {F : List Nat} {i c n k : Nat} (hi : i < F.length) (hc : c < F.length) (h1 : i < n) (h2 : c < n) (hk : n ≤ k) : (swp F i c).getD k 0 = F.getD k 0 := by
  rw [swp_get hi hc, if_neg (by omega), if_neg (by omega)]
theorem Hq.pop {F : List Nat} {n : Nat} (h : Hq F (n + 1)) (hn : n + 1 = F.length) : Dq (swp F 0 n) n 0 ∧ (swp F 0 n).getD n 0 = F.getD 0 0 := by
  refine ⟨⟨fun j j0 jn ji => ?_, fun j i0 => by omega⟩, ?_⟩
  · rw [swp_get (by omega) (by omega), swp_get (by omega) (by omega), if_neg (by omega), if_neg ji, if_neg (by omega), if_neg (by omega)]
    exact h j j0 (by omega)
  · rw [swp_get (by omega) (by omega), if_pos rfl]
theorem Hq.take {G : List Nat} {x n : Nat} (h : Hq (G ++ [x]) n) (hn : n = G.length) : Hq G n := fun j j0 jn => by
  have g : ∀ j, j < n → (G ++ [x]).getD j 0 = G.getD j 0 := fun j hj => by
    simp [List.getD, List.getElem?_append_left (show j < G.length by omega)]
  have := h j j0 jn
  rwa [g _ (by omega), g _ (by omega)] at this
end Go.Proofs.Ytibhjkmbbfgnpaa

/- The heap with its order: Less and Swap, what they do. -/
namespace Go.Proofs.Ytibhjkmbbfgnpaa
open Go.RowKit
set_option maxRecDepth 100000 in
theorem less_ex (w : World) (b c : Nat) (F : List Nat) (h : w.ownsRow 0 3 1 (.slice (some ⟨b, 0, none⟩) F.length c) F.length (ik F).toList) (i j : Nat) (hi : i < F.length) (hj : j < F.length) : Calls Try.prog 121 #[.slice (some ⟨b, 0, none⟩) F.length c, .int .i64 (i : Int), .int .i64 (j : Int)] w fun e w' => e = .returned (.bool (decide (F.getD i 0 < F.getD j 0))) ∧ ∃ k, w' = w.drewN k := by
  obtain ⟨b', c', -, e, -, hc⟩ := own_at h (by omega)
  injection e with e1 e2 e3
  injection e1 with e1
  injection e1 with e1
  subst e1 e3
  have c1 := hc i hi
  have c2 := hc j hj
  obtain ⟨n, hn⟩ : ∃ n, F.length = n := ⟨_, rfl⟩
  obtain ⟨x, hx⟩ : ∃ x, F.getD i 0 = x := ⟨_, rfl⟩
  obtain ⟨y, hy⟩ : ∃ y, F.getD j 0 = y := ⟨_, rfl⟩
  rw [hx] at c1
  rw [hy] at c2
  rw [hn] at hi hj ⊢
  rw [hx, hy]
  have i0 : (0 : Int) ≤ (i : Int) := by omega
  have i1 : (i : Int) < (n : Int) := by omega
  have j0 : (0 : Int) ≤ (j : Int) := by omega
  have j1 : (j : Int) < (n : Int) := by omega
  clear h hc hn hi hj hx hy
  go_enter Try.func121, Try.ntmps121
  go_wp2_with fail
  go_quiet (fail)
  go_wp2_with fail
  go_ret
  exact ⟨by first | rfl | simp, _, rfl⟩
set_option maxRecDepth 100000 in
set_option maxHeartbeats 1600000 in
theorem swap_ex (w : World) (fb b c : Nat) (F : List Nat) (h : Hp fb (.slice (some ⟨b, 0, none⟩) F.length c) F w) (i j : Nat) (hi : i < F.length) (hj : j < F.length) : Calls Try.prog 124 #[.slice (some ⟨b, 0, none⟩) F.length c, .int .i64 (i : Int), .int .i64 (j : Int)] w fun e w' => e = .returned (.tuple #[]) ∧ Hp fb (.slice (some ⟨b, 0, none⟩) F.length c) (swp F i j) w' ∧ Ch fb (.slice (some ⟨b, 0, none⟩) F.length c) (.slice (some ⟨b, 0, none⟩) F.length c) w w' := by
  obtain ⟨b', c', -, e, -, hc⟩ := own_at h.own (by omega)
  injection e with e1 e2 e3
  injection e1 with e1
  injection e1 with e1
  subst e1 e3
  have c1 : w.cell? ⟨b, i, none⟩ = some (.int .i64 ((F.getD i 0 : Nat) : Int)) := hc i hi
  have c2 : w.cell? ⟨b, j, none⟩ = some (.int .i64 ((F.getD j 0 : Nat) : Int)) := hc j hj
  obtain ⟨x, hx⟩ : ∃ x, F.getD i 0 = x := ⟨_, rfl⟩
  obtain ⟨y, hy⟩ : ∃ y, F.getD j 0 = y := ⟨_, rfl⟩
  rw [hx] at c1
  rw [hy] at c2
  obtain ⟨s1, f1⟩ := own_set h.own i y
  obtain ⟨s2, f2⟩ := own_set s1 j x
  have c3 : ∃ u, (w.setCell ⟨b, i, none⟩ (.int .i64 (y : Int))).cell? ⟨b, j, none⟩ = some u := by
    obtain ⟨b', c', -, e, -, hc⟩ := own_at (l := F.set i y) (by simpa using s1) (by simp; omega)
    injection e with e1 e2 e3
    injection e1 with e1
    injection e1 with e1
    subst e1
    exact ⟨_, hc j (by simpa using hj)⟩
  obtain ⟨u, c3⟩ := c3
  obtain ⟨Z, hZ⟩ : ∃ Z, (w.setCell ⟨b, i, none⟩ (.int .i64 (y : Int))).setCell ⟨b, j, none⟩ (.int .i64 (x : Int)) = Z := ⟨_, rfl⟩
  have HP : Hid (Hp fb (.slice (some ⟨b, 0, none⟩) F.length c) (swp F i j) Z ∧ Ch fb (.slice (some ⟨b, 0, none⟩) F.length c) (.slice (some ⟨b, 0, none⟩) F.length c) w Z) := by
    unfold swp
    rw [hx, hy]
    refine ⟨⟨?_, ?_⟩, ?_⟩
    · have hne : fb ≠ b := fun q => h.ne (by rw [q]; rfl)
      rw [← hZ, heap_setCell_other _ _ _ _ hne, heap_setCell_other _ _ _ _ hne]
      exact h.row
    · rw [← hZ]
      simpa using s2
    · rw [← hZ]
      refine ⟨rfl, rfl, rfl, by simp, fun k hk _ hv => ?_, fun k hk => .inl hk⟩
      have hne : k ≠ b := fun q => hv (by rw [q]; rfl)
      exact (heap_setCell_other _ _ _ _ hne).trans (heap_setCell_other _ _ _ _ hne)
  have lz := swp_len F i j
  obtain ⟨F', hF'⟩ : ∃ F', swp F i j = F' := ⟨_, rfl⟩
  rw [hF'] at HP lz ⊢
  obtain ⟨n, hn⟩ : ∃ n, F.length = n := ⟨_, rfl⟩
  rw [hn] at hi hj HP ⊢
  have i0 : (0 : Int) ≤ (i : Int) := by omega
  have i1 : (i : Int) < (n : Int) := by omega
  have j0 : (0 : Int) ≤ (j : Int) := by omega
  have j1 : (j : Int) < (n : Int) := by omega
  clear h hc hn hi hj s1 s2 hx hy hF' lz
  go_enter Try.func124, Try.ntmps124
  go_wp2_with fail
  go_region
  go_end0
  obtain ⟨h2, h3⟩ := HP.out
  exact ⟨rfl, h2.drew 1, h3.drew 1⟩
end Go.Proofs.Ytibhjkmbbfgnpaa
