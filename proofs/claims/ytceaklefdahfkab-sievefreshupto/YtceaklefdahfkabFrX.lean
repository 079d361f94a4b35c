/- Several texts in one: FrB, FrC, FrD, FrE, FrF. -/
import Derived.Test.YtceaklefdahfkabFrA
import Derived.Below
import Derived.Test.YtceaklefdahfkabCt2
import Derived.Test.YtceaklefdahfkabMk2
import Derived.Test.YtceaklefdahfkabBk1
import Derived.Test.YtceaklefdahfkabBg1
/- SieveFresh: several lists of one's own. -/
namespace Go.Proofs.Ytceaklefdahfkab
open Go.RowKit
def updF {α : Type} (X : Nat → α) (i : Nat) (y : α) : Nat → α := fun k => if k = i then y else X k
theorem updF_same {α : Type} (X : Nat → α) (i : Nat) (y : α) : updF X i y i = y := by simp [updF]
theorem updF_other {α : Type} (X : Nat → α) (i k : Nat) (y : α) (h : k ≠ i) : updF X i y k = X k := by simp [updF, h]
/-- N lists of one's own, in N blocks. -/
structure Fam (B : Nat) (e : TypeId) (sz N : Nat) (v : Nat → Value) (n : Nat → Nat) (X : Nat → List Value) (w : World) : Prop where
  ow : ∀ i, i < N → Ow B e sz (v i) (n i) (X i) w
  ne : ∀ i j, i < N → j < N → i ≠ j → ∀ g, bk (v i) = some g → bk (v j) ≠ some g
variable {B e sz N : Nat} {v mv : Nat → Value} {n : Nat → Nat} {X Y : Nat → List Value} {w w' : World}
theorem Fam.keep (h : Fam B e sz N v n X w) (hs : w.heap.size ≤ w'.heap.size) (hk : ∀ i g, i < N → bk (v i) = some g → g < w.heap.size → w'.heap[g]? = w.heap[g]?) : Fam B e sz N v n X w' :=
  ⟨fun i hi => (h.ow i hi).keep hs fun g hg hz => hk i g hi hg hz, h.ne⟩
theorem Fam.cong (h : Fam B e sz N v n X w) (hX : ∀ i, i < N → X i = Y i) : Fam B e sz N v n Y w :=
  ⟨fun i hi => by rw [← hX i hi]; exact h.ow i hi, h.ne⟩
theorem Fam.set (h : Fam B e sz N v n X w) {i g : Nat} (hi : i < N) (hg : bk (v i) = some g) (j : Nat) (u : Value) : Fam B e sz N v n (updF X i ((X i).set j u)) (w.setCell ⟨g, j, none⟩ u) :=
  ⟨fun k hk => by
    by_cases hki : k = i
    · subst hki
      rw [updF_same]
      exact (h.ow k hk).set hg j u
    · rw [updF_other _ _ _ _ hki]
      exact (h.ow k hk).setO (fun e => h.ne i k hi hk (fun e => hki e.symm) g hg e) j u, h.ne⟩
/-- What is done to a block of another kind. -/
theorem Fam.setO (h : Fam B e sz N v n X w) {g : Nat} (hg : ∀ cur, w.heap[g]? ≠ some (.cells cur e (0, 0))) (j : Nat) (u : Value) : Fam B e sz N v n X (w.setCell ⟨g, j, none⟩ u) :=
  h.keep (by simp) fun i k hi hk _ => heap_setCell_other w _ _ _ (fun e => by
    obtain ⟨_, _, cur, hc⟩ := (h.ow i hi).blk k hk
    cases e
    exact hg cur hc)
theorem Fam.grown (h : Fam B e sz N v n X w) {row : Option Nat} (hg : w.grownBy w' row) (hr : ∀ g, row = some g → ∀ cur, w.heap[g]? ≠ some (.cells cur e (0, 0))) : Fam B e sz N v n X w' :=
  h.keep hg.size fun i k hi hk hz => hg.block k hz (fun e => by
    obtain ⟨_, _, cur, hc⟩ := (h.ow i hi).blk k hk
    exact hr k e.symm cur hc)
theorem Fam.below (h : Fam B e sz N v n X w) {B' : Nat} (hB : Below B' w w') (hs : w.heap.size ≤ B') : Fam B e sz N v n X w' :=
  h.keep hB.size fun i k hi hk hz => hB.block k (by omega)
/-- Of the first a lists, each with more behind it. -/
structure Mor (B : Nat) (e : TypeId) (sz N : Nat) (v mv : Nat → Value) (n : Nat → Nat) (X Y : Nat → List Value) (a : Nat) (w : World) : Prop where
  fam : Fam B e sz N v n X w
  ow : ∀ i, i < a → Ow B e sz (mv i) (n i + 64) (X i ++ Y i) w
  bs : ∀ i, i < a → ∃ g, bk (mv i) = some g
  mx : ∀ i j, i < a → j < N → i ≠ j → ∀ g, bk (mv i) = some g → bk (v j) ≠ some g
  mm : ∀ i j, i < a → j < a → i ≠ j → ∀ g, bk (mv i) = some g → bk (mv j) ≠ some g
theorem Fam.mor0 (h : Fam B e sz N v n X w) (mv : Nat → Value) (Y : Nat → List Value) : Mor B e sz N v mv n X Y 0 w :=
  ⟨h, fun i hi => by omega, fun i hi => by omega, fun i j hi => by omega, fun i j hi => by omega⟩
theorem Mor.keep {a : Nat} (h : Mor B e sz N v mv n X Y a w) (hs : w.heap.size ≤ w'.heap.size) (hk : ∀ g cur, w.heap[g]? = some (.cells cur e (0, 0)) → g < w.heap.size → w'.heap[g]? = w.heap[g]?) : Mor B e sz N v mv n X Y a w' :=
  ⟨h.fam.keep hs fun i g hi hg hz => by
      obtain ⟨_, _, cur, hc⟩ := (h.fam.ow i hi).blk g hg
      exact hk g cur hc hz, fun i hi => (h.ow i hi).keep hs fun g hg hz => by
      obtain ⟨_, _, cur, hc⟩ := (h.ow i hi).blk g hg
      exact hk g cur hc hz, h.bs, h.mx, h.mm⟩
theorem Mor.setO {a : Nat} (h : Mor B e sz N v mv n X Y a w) {g : Nat} (hg : ∀ cur, w.heap[g]? ≠ some (.cells cur e (0, 0))) (j : Nat) (u : Value) : Mor B e sz N v mv n X Y a (w.setCell ⟨g, j, none⟩ u) :=
  h.keep (by simp) fun k cur hc _ => heap_setCell_other w _ _ _ (fun e => by cases e; exact hg cur hc)
theorem Mor.grown {a : Nat} (h : Mor B e sz N v mv n X Y a w) {row : Option Nat} (hg : w.grownBy w' row) (hr : ∀ g, row = some g → ∀ cur, w.heap[g]? ≠ some (.cells cur e (0, 0))) : Mor B e sz N v mv n X Y a w' :=
  h.keep hg.size fun k cur hc hz => hg.block k hz (fun e => hr k e.symm cur hc)
/-- One more of them, with its last cells set. -/
theorem Mor.step {a : Nat} (h : Mor B e sz N v mv n X Y a w) (ha : a < N) {g' c' : Nat} {nw : List Value} (hO : Ow B e sz (.slice (some ⟨g', 0, none⟩) (n a + 64) c') (n a + 64) (X a ++ nw) w') (hO2 : Ow B e sz (v a) (n a) (X a) w') (hg : w.grownBy w' (bk (v a))) (hf : bk (v a) = some g' ∨ w.heap.size ≤ g') (hb : bk (.slice (some ⟨g', 0, none⟩) (n a + 64) c') = some g') (j : Nat) (u : Value) (hY : Y a = nw.set j u) :
    Mor B e sz N v (updF mv a (.slice (some ⟨g', 0, none⟩) (n a + 64) c')) n X Y (a + 1) (w'.setCell ⟨g', n a * sz + j, none⟩ u) := by
  have hfm : Fam B e sz N v n X w' := ⟨fun i hi => by
    by_cases hia : i = a
    · subst hia; exact hO2
    · exact (h.fam.ow i hi).keep hg.size fun g hgi hz => hg.block g hz (fun e => h.fam.ne i a hi ha hia g hgi e.symm), h.fam.ne⟩
  have hxl : (X a).length = n a * sz := hO2.1
  have hmo : ∀ i, i < a → Ow B e sz (mv i) (n i + 64) (X i ++ Y i) w' ∧ bk (mv i) ≠ some g' := fun i hi => by
    refine ⟨(h.ow i hi).keep hg.size fun g hgi hz => hg.block g hz (fun e => h.mx i a hi ha (by omega) g hgi e.symm), fun e' => ?_⟩
    rcases hf with h1 | h1
    · exact h.mx i a hi ha (by omega) g' e' h1
    · obtain ⟨_, hz, _⟩ := (h.ow i hi).blk g' e'
      omega
  have hva : ∀ k, k < N → k ≠ a → bk (v k) ≠ some g' := fun k hk hka e' => by
    rcases hf with h1 | h1
    · exact h.fam.ne k a hk ha hka g' e' h1
    · obtain ⟨_, hz, _⟩ := (h.fam.ow k hk).blk g' e'
      omega
  refine ⟨⟨fun i hi => ?_, h.fam.ne⟩, fun i hi => ?_, fun i hi => ?_, fun i k hi hk hik g hgi => ?_, fun i k hi hk hik g hgi => ?_⟩
  · by_cases hia : i = a
    · subst hia
      by_cases hbi : bk (v i) = some g'
      · have := hO2.set hbi (n i * sz + j) u
        rw [List.set_eq_of_length_le (by omega)] at this
        exact this
      · exact hO2.setO hbi _ _
    · exact (hfm.ow i hi).setO (hva i hi hia) _ _
  · by_cases hia : i = a
    · subst hia
      rw [updF_same, hY]
      have := hO.set hb (n i * sz + j) u
      rw [List.set_append_right _ _ (by omega), hxl, Nat.add_sub_cancel_left] at this
      exact this
    · rw [updF_other _ _ _ _ hia]
      obtain ⟨q1, q2⟩ := hmo i (by omega)
      exact q1.setO q2 _ _
  · by_cases hia : i = a
    · subst hia; rw [updF_same]; exact ⟨_, hb⟩
    · rw [updF_other _ _ _ _ hia]; exact h.bs i (by omega)
  · by_cases hia : i = a
    · subst hia
      rw [updF_same, hb] at hgi
      cases hgi
      exact hva k hk (fun e => hik e.symm)
    · rw [updF_other _ _ _ _ hia] at hgi
      exact h.mx i k (by omega) hk hik g hgi
  · by_cases hia : i = a
    · subst hia
      rw [updF_same, hb] at hgi
      cases hgi
      rw [updF_other _ _ _ _ (fun e => hik e.symm)]
      exact (hmo k (by omega)).2
    · rw [updF_other _ _ _ _ hia] at hgi
      by_cases hka : k = a
      · subst hka
        rw [updF_same, hb]
        intro e'
        cases e'
        exact (hmo i (by omega)).2 hgi
      · rw [updF_other _ _ _ _ hka]
        exact h.mm i k (by omega) (by omega) hik g hgi
end Go.Proofs.Ytceaklefdahfkab

/- SieveFresh: copies, and the streams whatever they answer. -/
namespace Go.Proofs.Ytceaklefdahfkab
open Go.RowKit
theorem ik_toList_get (k : IntKind) (l : List Nat) (j : Nat) (h : j < l.length) : (ik k l).toList[j]? = some (.int k ((l.getD j 0 : Nat) : Int)) := by
  rw [Array.getElem?_toList]; exact ik_get k l j h
theorem wb_ow {B k : Nat} {o : Option Addr} {X : List Nat} {w : World} (hs : Si .u8 (.slice o k k) X w) (hw : Wb B o k w) : X.length = k ∧ Ow B 5 1 (.slice o k k) k (ik .u8 X).toList w := by
  have hl : X.length = k := by
    rcases hs with ⟨h1, h2⟩ | ⟨b, off, cap, h1, _⟩
    · cases h1; rw [h2]; rfl
    · injection h1 with _ h1 _; exact h1.symm
  refine ⟨hl, by simp [ik, hl], ?_⟩
  have hz : ∀ a, o = some a → a.spot = none ∧ a.block < w.heap.size := fun a e => by
    rcases hs with ⟨h1, _⟩ | ⟨b, off, cap, h1, _, _, h4, _⟩
    · injection h1 with h1 _ _; rw [h1] at e; cases e
    · injection h1 with h1 _ _; rw [h1] at e; cases e; exact ⟨rfl, h4⟩
  rcases hw with rfl | ⟨g, cur, ty, rfl, hg, hr, hn, rfl⟩
  · exact .inl ⟨rfl, o, rfl, hz⟩
  · cases k with
    | zero => exact .inl ⟨rfl, _, rfl, hz⟩
    | succ k =>
      rcases hs with ⟨h1, _⟩ | ⟨b, off, cap, h1, h2, h3, h4, h5⟩
      · injection h1 with _ h1 _; cases h1
      · injection h1 with h1 _ h1'
        cases h1
        refine .inr ⟨g, k, cur, rfl, hg, hr, Nat.le_refl _, by omega, by omega, ?_⟩
        apply List.ext_getElem?
        intro j
        rw [List.getElem?_take]
        by_cases hj : j < k + 1
        · rw [if_pos (by omega), Array.getElem?_toList, ik_toList_get _ _ _ (by omega), ← cell_of_row w g j _ _ _ hr]
          have := h5 j (by omega)
          rwa [Nat.zero_add] at this
        · rw [if_neg (by omega), List.getElem?_eq_none (by simp [ik]; omega)]
theorem ow_si {B : Nat} {v : Value} {X : List Nat} {w : World} (h : Ow B 5 1 v X.length (ik .u8 X).toList w) : Si .u8 v X w := by
  rcases h.2 with ⟨h0, o, rfl, h1⟩ | ⟨g, cap, cur, rfl, b, c, d, f, _⟩
  · have hX : X = [] := List.length_eq_zero_iff.1 h0
    subst hX
    cases o with
    | none => exact .inl ⟨rfl, rfl⟩
    | some a =>
      obtain ⟨q1, q2⟩ := h1 a rfl
      obtain ⟨b, off, sp⟩ := a
      cases q1
      exact .inr ⟨b, off, 0, rfl, Nat.le_refl _, by simp [maxLen], q2, fun j hj => by simp at hj⟩
  · exact .inr ⟨g, 0, cap + 1, rfl, d, f, (Array.getElem?_eq_some_iff.1 c).1, fun j hj => by rw [Nat.zero_add]; exact h.cell rfl j _ (ik_toList_get _ _ _ hj)⟩
theorem ow_hl {B : Nat} {v : Value} {H : List (Int × Int)} {w : World} (h : Ow B 39 2 v H.length (hc H) w) : Hl v H w := by
  rcases h.2 with ⟨h0, o, rfl, h1⟩ | ⟨g, cap, cur, rfl, b, c, d, f, _⟩
  · have hX : H = [] := List.length_eq_zero_iff.1 h0
    subst hX
    cases o with
    | none => exact .inl ⟨rfl, rfl⟩
    | some a =>
      obtain ⟨q1, q2⟩ := h1 a rfl
      obtain ⟨b, off, sp⟩ := a
      cases q1
      exact .inr ⟨b, off, 0, rfl, Nat.le_refl _, by simp [maxLen], q2, fun j hj => by simp at hj⟩
  · exact .inr ⟨g, 0, cap + 1, rfl, d, f, (Array.getElem?_eq_some_iff.1 c).1, fun j hj => by
      rw [Nat.zero_add]
      exact ⟨h.cell rfl _ _ (hc_get H j hj).1, h.cell rfl _ _ (hc_get H j hj).2⟩⟩
theorem sk_toList_get (l : List ByteArray) (j : Nat) (s : ByteArray) (h : l[j]? = some s) : (sk l).toList[j]? = some (.string s) := by
  simp [sk, h]
theorem ow_st {B : Nat} {v : Value} {l : List ByteArray} {w : World} (h : Ow B 9 1 v l.length (sk l).toList w) : St v l w := by
  rcases h.2 with ⟨h0, o, rfl, h1⟩ | ⟨g, cap, cur, rfl, b, c, d, f, _⟩
  · have hX : l = [] := List.length_eq_zero_iff.1 h0
    subst hX
    cases o with
    | none => exact .inl ⟨rfl, rfl⟩
    | some a =>
      obtain ⟨q1, q2⟩ := h1 a rfl
      obtain ⟨b, off, sp⟩ := a
      cases q1
      exact .inr ⟨b, off, 0, rfl, Nat.le_refl _, by simp [maxLen], q2, fun j s hj => by simp at hj⟩
  · exact .inr ⟨g, 0, cap + 1, rfl, d, f, (Array.getElem?_eq_some_iff.1 c).1, fun j s hj => by rw [Nat.zero_add]; exact h.cell rfl j _ (sk_toList_get _ _ _ hj)⟩
theorem below_of_grown {w w' : World} (h : w.grownBy w' none) : Below w.heap.size w w' := ⟨h.os, h.tape, h.output, h.size, fun k hk => h.block k hk (by simp)⟩
/-- A copy of hits. -/
theorem run_cpH (w : World) (ty : Nat) (v : Value) (H : List (Int × Int)) (hl : H.length ≤ 1099511627776) (hv : Hl v H w) :
    ∃ v' w', (appH ty #[.slice none 0 0, v]).run Try.prog w = .ok v' w' ∧ Ow w.heap.size 39 2 v' H.length (hc H) w' ∧ Below w.heap.size w w' := by
  obtain ⟨i0, hi0, hz0, hz1, hz2⟩ := info_parts info40
  rcases hv with ⟨rfl, rfl⟩ | ⟨b, off, cap, rfl, h2, h3, h4, h5⟩
  · obtain ⟨v', w', q1, q2, q3⟩ := app_nil (P := Try.prog) w 31 ty 39 i0 _ 2 16 Try.underlying31 hi0 hz0 hz1 hz2 rfl (by decide) none 0 0 (hc []) rfl (fun _ => rfl) (fun a e => by cases e) (hc_one []) (by omega) (by omega)
    exact ⟨v', w', q1, own_ow q2, below_of_grown q3⟩
  · obtain ⟨v', w', q1, q2, q3⟩ := app_nil (P := Try.prog) w 31 ty 39 i0 _ 2 16 Try.underlying31 hi0 hz0 hz1 hz2 rfl (by decide) (some ⟨b, off, none⟩) H.length cap (hc H) (hc_len H) (fun e => by cases e) (fun a e j u hu => by cases e; exact hc_cell h5 j u hu) (hc_one H) (by unfold maxLen; omega) (by omega)
    exact ⟨v', w', q1, own_ow q2, below_of_grown q3⟩
/-- A copy of texts. -/
theorem run_cpX (w : World) (ty : Nat) (v : Value) (l : List ByteArray) (hl : l.length ≤ 1099511627776) (hv : St v l w) :
    ∃ v' w', (apS ty #[.slice none 0 0, v]).run Try.prog w = .ok v' w' ∧ Ow w.heap.size 9 1 v' l.length (sk l).toList w' ∧ Below w.heap.size w w' := by
  obtain ⟨i0, hi0, hz0, hz1, hz2⟩ := info_parts info9
  have h1 : ∀ u ∈ (sk l).toList, u.oneCell' = true := fun u hu => by
    simp [sk] at hu
    obtain ⟨s, _, rfl⟩ := hu
    rfl
  rcases hv with ⟨rfl, rfl⟩ | ⟨b, off, cap, rfl, h2, h3, h4, h5⟩
  · obtain ⟨v', w', q1, q2, q3⟩ := app_nil (P := Try.prog) w 22 ty 9 i0 _ 1 16 Try.underlying22 hi0 hz0 hz1 hz2 rfl (by decide) none 0 0 (sk []).toList rfl (fun _ => rfl) (fun a e => by cases e) h1 (by omega) (by omega)
    exact ⟨v', w', q1, own_ow q2, below_of_grown q3⟩
  · obtain ⟨v', w', q1, q2, q3⟩ := app_nil (P := Try.prog) w 22 ty 9 i0 _ 1 16 Try.underlying22 hi0 hz0 hz1 hz2 rfl (by decide) (some ⟨b, off, none⟩) l.length cap (sk l).toList (by simp [sk]) (fun e => by cases e) (fun a e j u hu => by
      cases e
      rw [Go.WideShapes.add_plain]
      simp [sk] at hu
      obtain ⟨s, hs, rfl⟩ := hu
      exact h5 j s hs) h1 (by unfold maxLen; omega) (by omega)
    exact ⟨v', w', q1, own_ow q2, below_of_grown q3⟩
/-- A copy of bytes. -/
theorem run_cpY (w : World) (ty : Nat) (v : Value) (D : List Nat) (hl : D.length ≤ 1099511627776) (hv : Si .u8 v D w) :
    ∃ v' w', (apB ty #[.slice none 0 0, v]).run Try.prog w = .ok v' w' ∧ Ow w.heap.size 5 1 v' D.length (ik .u8 D).toList w' ∧ Below w.heap.size w w' := by
  obtain ⟨i0, hi0, hz0, hz1, hz2⟩ := info_parts info5
  have h1 : ∀ u ∈ (ik .u8 D).toList, u.oneCell' = true := fun u hu => by
    simp [ik] at hu
    obtain ⟨s, _, rfl⟩ := hu
    rfl
  rcases hv with ⟨rfl, rfl⟩ | ⟨b, off, cap, rfl, h2, h3, h4, h5⟩
  · obtain ⟨v', w', q1, q2, q3⟩ := app_nil (P := Try.prog) w 23 ty 5 i0 _ 1 1 Try.underlying23 hi0 hz0 hz1 hz2 rfl (by decide) none 0 0 (ik .u8 []).toList rfl (fun _ => rfl) (fun a e => by cases e) h1 (by omega) (by omega)
    exact ⟨v', w', q1, own_ow q2, below_of_grown q3⟩
  · obtain ⟨v', w', q1, q2, q3⟩ := app_nil (P := Try.prog) w 23 ty 5 i0 _ 1 1 Try.underlying23 hi0 hz0 hz1 hz2 rfl (by decide) (some ⟨b, off, none⟩) D.length cap (ik .u8 D).toList (by simp [ik]) (fun e => by cases e) (fun a e j u hu => by
      cases e
      rw [Go.WideShapes.add_plain]
      have hj : j < D.length := by have := (List.getElem?_eq_some_iff.1 hu).1; simpa [ik] using this
      rw [ik_toList_get _ _ _ hj] at hu
      rw [← hu]
      exact h5 j hj) h1 (by unfold maxLen; omega) (by omega)
    exact ⟨v', w', q1, own_ow q2, below_of_grown q3⟩
/-- One byte, and bytes behind it. -/
theorem run_apB1 (w : World) (ty c : Nat) (v : Value) (D : List Nat) (hl : D.length ≤ 1099511627776) (h0 : 0 < D.length) (hv : Si .u8 v D w) :
    ∃ v' w', (apB ty #[.slice (some ⟨w.heap.size, 0, none⟩) 1 1, v]).run Try.prog (w.alloc (.cells #[.int .u8 (c : Int)] 5)) = .ok v' w' ∧ Ow w.heap.size 5 1 v' (c :: D).length (ik .u8 (c :: D)).toList w' ∧ Below w.heap.size w w' := by
  obtain ⟨i0, hi0, hz0, hz1, hz2⟩ := info_parts info5
  have h1 : ∀ u ∈ (ik .u8 D).toList, u.oneCell' = true := fun u hu => by
    simp [ik] at hu
    obtain ⟨s, _, rfl⟩ := hu
    rfl
  rcases hv with ⟨rfl, rfl⟩ | ⟨b, off, cap, rfl, h2, h3, h4, h5⟩
  · simp at h0
  · obtain ⟨v', w', q1, q2, q3, _⟩ := run_append_own (P := Try.prog) (w.alloc (.cells #[.int .u8 (c : Int)] 5)) w.heap.size 23 ty 5 i0 _ 1 1 Try.underlying23 hi0 hz0 hz1 hz2 rfl (by decide) (.slice (some ⟨w.heap.size, 0, none⟩) 1 1) 1 [.int .u8 (c : Int)] ⟨rfl, .inr ⟨w.heap.size, 1, #[.int .u8 (c : Int)], rfl, Nat.le_refl _, heap_alloc_new w _, Nat.le_refl _, by unfold maxLen; omega, rfl, rfl⟩⟩ ⟨b, off, none⟩ D.length cap (ik .u8 D).toList (by simp [ik]) (fun j u hu => by
      rw [Go.WideShapes.add_plain]
      have hj : j < D.length := by have := (List.getElem?_eq_some_iff.1 hu).1; simpa [ik] using this
      rw [ik_toList_get _ _ _ hj] at hu
      rw [← hu]
      exact (World.cell?_of_block (w := w) (heap_alloc_old w _ h4)).trans (h5 j hj)) h1 (by unfold maxLen; omega) (by omega) (by simp)
    refine ⟨v', w', q1, own_ow ?_, ⟨q3.os, q3.tape, q3.output, Nat.le_trans (by simp) q3.size, fun k hk => (q3.block k (by simp; omega) (fun e => ?_)).trans (heap_alloc_old w _ hk)⟩⟩
    · rw [show (c :: D).length = 1 + D.length by simp [Nat.add_comm], show (ik .u8 (c :: D)).toList = [Value.int .u8 (c : Int)] ++ (ik .u8 D).toList by simp [ik]]
      exact q2
    · have : w.heap.size = k := by cases e; rfl
      omega
/-- A rewriter, whatever it has taken. -/
def RwS (ws : List ByteArray) (m : Nat) (ns : List Nat) (T : List ByteArray) (gr gt : Nat) (tv : Value) (L : Nat) (w : World) : Prop :=
  (∃ y, y.length ≤ L ∧ (ovP 0 m (hts (ws.map tl) m y)).2 = false ∧ RwI ws m ns T gr gt tv y w) ∨ ∃ n h, Rwd gr n h w
theorem feedS (ws : List ByteArray) (m : Nat) (hp : Pt ws m) (ns : List Nat) (hn : NewOk ws ns) (T : List ByteArray) (hT : ∀ s ∈ T, s.size = m) (hTl : T.length = ws.length) (gr gt : Nat) (tv : Value) (L : Nat) (hL : L ≤ 1125899906842624) (p : List Nat) (hpb : Byt p) (hpl : p.length ≤ 1073741824) (pv : Value) (w : World)
    (hR : RwS ws m ns T gr gt tv L w) (ht : TabK gr gt (ftT ((wdS ws ns).map tl) ns m) w) (hpv : Si .u8 pv p w) (hpg : pv.ownBlock ≠ some gr) (hTv : St tv T w) (hTg : tv.ownBlock ≠ some gr) :
    Calls Try.prog 22 #[.pointer (some ⟨gr, 0, none⟩), pv] w fun e w' => Bur gr w w' ∧ ∃ v f n X, e = .returned (.tuple #[v, .int .i64 f, .int .i64 n]) ∧ X.length ≤ L + p.length ∧ Ow w.heap.size 5 1 v X.length (ik .u8 X).toList w' ∧ RwS ws m ns T gr gt tv (L + p.length) w' := by
  rcases hR with ⟨y, hy, hov, hR⟩ | ⟨n, h, hR⟩
  · refine (rfeed_y ws m hp ns hn T hT hTl gr gt tv y p (by omega) hpb hpl hov pv w hR ht hpv hpg hTv hTg).mono ?_
    rintro e w' ⟨hb, ⟨_, rfl, h2⟩ | ⟨h1, o, k, X, rfl, hs, hw, he, hI⟩⟩
    · exact ⟨hb, _, _, _, [], rfl, by simp, ⟨rfl, .inl ⟨rfl, none, rfl, fun a e => by cases e⟩⟩, .inr ⟨_, _, h2⟩⟩
    · obtain ⟨q1, q2⟩ := wb_ow hs hw
      have hlen := congrArg List.length he
      rw [List.length_append, List.length_take, List.length_take, List.length_append] at hlen
      exact ⟨hb, _, _, _, X, rfl, by omega, by rw [q1]; exact q2, .inl ⟨y ++ p, by rw [List.length_append]; omega, h1, hI⟩⟩
  · refine (rfeed_done gr n h pv w hR).mono ?_
    rintro e w' ⟨rfl, rfl⟩
    exact ⟨⟨rfl, rfl, rfl, Nat.le_refl _, fun _ _ _ => rfl⟩, _, _, _, [], rfl, by simp, ⟨rfl, .inl ⟨rfl, none, rfl, fun a e => by cases e⟩⟩, .inr ⟨_, _, hR⟩⟩
theorem closeS (ws : List ByteArray) (m : Nat) (hp : Pt ws m) (ns : List Nat) (T : List ByteArray) (gr gt : Nat) (tv : Value) (L : Nat) (w : World) (hR : RwS ws m ns T gr gt tv L w) :
    Calls Try.prog 23 #[.pointer (some ⟨gr, 0, none⟩)] w fun e w' => Bur gr w w' ∧ ∃ v f n X, e = .returned (.tuple #[v, .int .i64 f, .int .i64 n]) ∧ X.length ≤ 63 ∧ Ow w.heap.size 5 1 v X.length (ik .u8 X).toList w' := by
  rcases hR with ⟨y, hy, hov, s, K, hK, hR, hat, hKt⟩ | ⟨n, h, hR⟩
  · have hm1 := hp.m1
    have hle := hld2_lm (ws.map tl) m y
    have hh : hld2 (ws.map tl) m y ≤ 63 := by omega
    refine (rclose_any gr gt s y.length _ tv _ K hK hh w hR).mono ?_
    rintro e w' ⟨rfl, h1, h2, h3⟩
    have hl : (K.take (hld2 (ws.map tl) m y)).length = hld2 (ws.map tl) m y := by rw [List.length_take]; omega
    refine ⟨h3, _, _, _, K.take (hld2 (ws.map tl) m y), rfl, by omega, ?_⟩
    rw [hl]
    exact own_ow ⟨by simp [ik]; omega, .inr ⟨w.heap.size, _, _, rfl, Nat.le_refl _, h1, Nat.le_refl _, by unfold maxLen; omega, by simp [ik]; omega, by rw [Nat.mul_one, List.take_of_length_le (by simp [ik]; omega)]⟩⟩
  · refine (rclose_done gr n h w hR).mono ?_
    rintro e w' ⟨rfl, rfl⟩
    exact ⟨⟨rfl, rfl, rfl, Nat.le_refl _, fun _ _ _ => rfl⟩, _, _, _, [], rfl, by simp, ⟨rfl, .inl ⟨rfl, none, rfl, fun a e => by cases e⟩⟩⟩
theorem hts_nilF (L : List (List Nat)) (m : Nat) (hm : 0 < m) : hts L m [] = [] := List.length_eq_zero_iff.1 (by simpa using hts_len L m [] hm)
theorem hld2_nilF (L : List (List Nat)) (m : Nat) : hld2 L m [] = 0 := by
  have := hld2_lm L m []
  simp at this; omega
/-- A rewriter that has taken nothing. -/
theorem rwS_new (ws : List ByteArray) (m : Nat) (hp : Pt ws m) (ns : List Nat) (hn : NewOk ws ns) (T : List ByteArray) (gr gt : Nat) (tv : Value) (w : World) (hr : Rwt gr gt 0 0 0 tv 0 (List.replicate 63 0) w) : RwS ws m ns T gr gt tv 0 w := by
  have h1 := hts_nilF (ws.map tl) m hp.m0
  have h2 := hld2_nilF (ws.map tl) m
  have h3 : rwd (ws.map tl) m T [] = [] := by unfold rwd; rw [h1]; rfl
  refine .inl ⟨[], Nat.le_refl _, by rw [h1]; rfl, 0, List.replicate 63 0, by simp, ?_, (hp.wd hn).at0, ?_⟩
  · rw [h2, h1]; exact hr
  · rw [h2, h3]; rfl
theorem Ow.but {B e sz n gs : Nat} {v : Value} {xs : List Value} {w w' : World} (h : Ow B e sz v n xs w) (hb : But gs w w') (hg : gs < B) : Ow B e sz v n xs w' :=
  h.keep hb.size fun g hg' hz => hb.block g hz (by have := (h.blk g hg').1; omega)
theorem Ow.bur {B e sz n gs : Nat} {v : Value} {xs : List Value} {w w' : World} (h : Ow B e sz v n xs w) (hb : Bur gs w w') (hg : gs < B) : Ow B e sz v n xs w' :=
  h.keep hb.size fun g hg' hz => hb.block g hz (by have := (h.blk g hg').1; omega)
theorem Ow.bel {B e sz n : Nat} {v : Value} {xs : List Value} {w w' : World} (h : Ow B e sz v n xs w) (hb : Below w.heap.size w w') : Ow B e sz v n xs w' :=
  h.keep hb.size fun g _ hz => hb.block g hz
end Go.Proofs.Ytceaklefdahfkab

/- SieveFresh: fedTwice. -/
namespace Go.Proofs.Ytceaklefdahfkab
open Go.RowKit
/-- What lies while both are fed: the table, the scanner that has taken some bytes, the rewriter, what is handed in. -/
structure Fdd (ws : List ByteArray) (m : Nat) (ns : List Nat) (gs gr gt : Nat) (tv dv : Value) (D : List Nat) (w0 : World) (L : Nat) (w : World) : Prop where
  tk : TabK w0.heap.size gt (ftT ((wdS ws ns).map tl) ns m) w
  sc : ∃ s h y, y.length ≤ L ∧ Scn gs gt s y.length h w ∧ At ((wdS ws ns).map tl) m s y
  rw : RwS ws m ns ws gr gt tv L w
  tv : St tv ws w
  dv : Si .u8 dv D w
  bl : Below w0.heap.size w0 w
structure Fdc (w0 : World) (gs gr : Nat) (tv dv : Value) : Prop where
  s : w0.heap.size ≤ gs
  r : w0.heap.size ≤ gr
  sr : gs ≠ gr
  t1 : ∀ k, tv.ownBlock = some k → k ≠ gs ∧ k ≠ gr
  d1 : ∀ k, dv.ownBlock = some k → k < w0.heap.size
variable {ws : List ByteArray} {m : Nat} {ns : List Nat} {gs gr gt : Nat} {tv dv : Value} {D : List Nat} {w0 w w' : World} {L : Nat}
theorem Fdd.feedC (h : Fdd ws m ns gs gr gt tv dv D w0 L w) (c : Fdc w0 gs gr tv dv) (hp : Pt ws m) (hn : NewOk ws ns) (p : List Nat) (hpb : Byt p) (hpl : p.length ≤ 1073741824) (hL : L ≤ 1000000000000000) (pv : Value) (hpv : Si .u8 pv p w) :
    Calls Try.prog 21 #[.pointer (some ⟨gs, 0, none⟩), pv] w fun e w' => ∃ v H, e = .returned v ∧ H.length ≤ L + 2 * p.length + 64 ∧ Ow w.heap.size 39 2 v H.length (hc H) w' ∧ Fdd ws m ns gs gr gt tv dv D w0 (L + p.length) w' ∧ But gs w w' := by
  obtain ⟨s, hh, y, hy, hs, hat⟩ := h.sc
  refine (feedC_any ws m hp ns hn gs gt s hh y p (by omega) hpb hpl pv w hs hat ((h.tk).mono c.s) hpv).mono ?_
  rintro e w' ⟨v, s', rfl, ho, hs', hat', hb⟩
  have hl : (hit2 (ws.map tl) m y p).length ≤ L + 2 * p.length + 64 := by
    unfold hit2
    rw [List.length_map]
    have := hts_len (ws.map tl) m (lastN m y ++ p) hp.m0
    rw [List.length_append, lastN_len] at this
    have := hp.m1
    omega
  have hB : Below w0.heap.size w w' := ⟨hb.os, hb.tape, hb.output, hb.size, fun k hk => hb.block k (by have := h.bl.size; omega) (by have := c.s; omega)⟩
  have gz : gs < w.heap.size := (Array.getElem?_eq_some_iff.1 hs).1
  refine ⟨v, _, rfl, hl, own_ow ho, ⟨h.tk.keep hb.size (fun j hj _ => hB.block j hj), ⟨s', _, y ++ p, by rw [List.length_append]; omega, hs', hat'⟩, ?_, h.tv.keep hb.size (fun k hk hz => hb.block k hz (c.t1 k hk).1), h.dv.keep hb.size (fun k hk _ => hB.block k (c.d1 k hk)), h.bl.trans hB⟩, hb⟩
  rcases h.rw with ⟨y', hy', hov, s2, K, hK, hR, r⟩ | ⟨n, hh, hR⟩
  · have gz2 : gr < w.heap.size := (Array.getElem?_eq_some_iff.1 hR).1
    exact .inl ⟨y', by omega, hov, s2, K, hK, (hb.block gr gz2 (Ne.symm c.sr)).trans hR, r⟩
  · have gz2 : gr < w.heap.size := (Array.getElem?_eq_some_iff.1 hR).1
    exact .inr ⟨n, hh, (hb.block gr gz2 (Ne.symm c.sr)).trans hR⟩
theorem Fdd.feedW (h : Fdd ws m ns gs gr gt tv dv D w0 L w) (c : Fdc w0 gs gr tv dv) (hp : Pt ws m) (hn : NewOk ws ns) (p : List Nat) (hpb : Byt p) (hpl : p.length ≤ 1073741824) (hL : L ≤ 1000000000000000) (pv : Value) (hpv : Si .u8 pv p w) (hpg : pv.ownBlock ≠ some gr) :
    Calls Try.prog 22 #[.pointer (some ⟨gr, 0, none⟩), pv] w fun e w' => ∃ v f n X, e = .returned (.tuple #[v, .int .i64 f, .int .i64 n]) ∧ X.length ≤ L + p.length ∧ Ow w.heap.size 5 1 v X.length (ik .u8 X).toList w' ∧ Fdd ws m ns gs gr gt tv dv D w0 (L + p.length) w' ∧ Bur gr w w' := by
  refine (feedS ws m hp ns hn ws hp.sz rfl gr gt tv L (by omega) p hpb hpl pv w h.rw (h.tk.mono c.r) hpv hpg h.tv (fun e => (c.t1 gr e).2 rfl)).mono ?_
  rintro e w' ⟨hb, v, f, n, X, rfl, hX, ho, hR⟩
  have hB : Below w0.heap.size w w' := ⟨hb.os, hb.tape, hb.output, hb.size, fun k hk => hb.block k (by have := h.bl.size; omega) (by have := c.r; omega)⟩
  obtain ⟨s, hh, y, hy, hs, hat⟩ := h.sc
  have gz : gs < w.heap.size := (Array.getElem?_eq_some_iff.1 hs).1
  exact ⟨v, f, n, X, rfl, hX, ho, ⟨h.tk.keep hb.size (fun j hj _ => hB.block j hj), ⟨s, hh, y, by omega, (hb.block gs gz c.sr).trans hs, hat⟩, hR, h.tv.keep hb.size (fun k hk hz => hb.block k hz (c.t1 k hk).2), h.dv.keep hb.size (fun k hk _ => hB.block k (c.d1 k hk)), h.bl.trans hB⟩, hb⟩
theorem Fdd.below (h : Fdd ws m ns gs gr gt tv dv D w0 L w) (hb : Below w.heap.size w w') : Fdd ws m ns gs gr gt tv dv D w0 L w' := by
  have hB : Below w0.heap.size w w' := hb.mono h.bl.size
  obtain ⟨s, hh, y, hy, hs, hat⟩ := h.sc
  refine ⟨h.tk.keep hb.size (fun j hj _ => hB.block j hj), ⟨s, hh, y, hy, (hb.block gs (Array.getElem?_eq_some_iff.1 hs).1).trans hs, hat⟩, ?_, h.tv.below hb, h.dv.below hb, h.bl.trans hB⟩
  rcases h.rw with ⟨y', hy', hov, s2, K, hK, hR, r⟩ | ⟨n, hh, hR⟩
  · exact .inl ⟨y', hy', hov, s2, K, hK, (hb.block gr (Array.getElem?_eq_some_iff.1 hR).1).trans hR, r⟩
  · exact .inr ⟨n, hh, (hb.block gr (Array.getElem?_eq_some_iff.1 hR).1).trans hR⟩
/-- Both are made. -/
theorem fdd_new (hp : Pt ws m) (hn : NewOk ws ns) {w1 w2 : World} (ht : TabK w0.heap.size gt (ftT ((wdS ws ns).map tl) ns m) w0) (hd : Si .u8 dv D w0) (hs : Scn w0.heap.size gt 0 0 0 w1) (hb1 : Below w0.heap.size w0 w1) (hz1 : w1.heap.size = w0.heap.size + 1) (hb2 : Below w1.heap.size w1 w2) (hgr : w1.heap.size ≤ gr) (hR : Rwt gr gt 0 0 0 tv 0 (List.replicate 63 0) w2) (hS : St tv ws w2) (hg : tv.ownBlock ≠ some gr) (ho : ∀ k, tv.ownBlock = some k → w1.heap.size ≤ k) :
    Fdd ws m ns w0.heap.size gr gt tv dv D w0 0 w2 ∧ Fdc w0 w0.heap.size gr tv dv := by
  have hb : Below w0.heap.size w0 w2 := hb1.trans (hb2.mono hb1.size)
  refine ⟨⟨ht.keep hb.size (fun j hj _ => hb.block j hj), ⟨0, 0, [], Nat.le_refl _, (hb2.block _ (by omega)).trans hs, (hp.wd hn).at0⟩, rwS_new ws m hp ns hn ws gr gt tv w2 hR, hS, hd.below hb, hb⟩, ⟨Nat.le_refl _, by omega, by omega, fun k hk => ?_, hd.blk⟩⟩
  have := ho k hk
  exact ⟨by omega, fun e => hg (by rw [hk, e])⟩
end Go.Proofs.Ytceaklefdahfkab

/- SieveFresh: fedTwice, the walk. -/
namespace Go.Proofs.Ytceaklefdahfkab
open Go.RowKit
theorem ft_values {ws : List ByteArray} {m : Nat} {ns : List Nat} (_hp : Pt ws m) (hn : NewOk ws ns) : (ftT ((wdS ws ns).map tl) ns m).values.length = ws.length ∧ (ftT ((wdS ws ns).map tl) ns m).width = m := by
  constructor
  · show (lbS _ _).values.length = _
    rw [(lbS_same _ _).2.2.2.2]
    exact hn.1.len
  · show (lbS _ _).width = _
    rw [(lbS_same _ _).2.2.1]
    rfl
theorem pt_allF {ws : List ByteArray} {m : Nat} (hp : Pt ws m) : allW m ws = true := by
  unfold allW
  rw [List.all_eq_true]
  intro s hs
  exact decide_eq_true (hp.sz s hs)
theorem Ow.ob {w : World} {B e sz n : Nat} {v : Value} {xs : List Value} (h : Ow B e sz v n xs w) (hn : 0 < n) : ∀ k, v.ownBlock = some k → B ≤ k := fun k hk => by
  rcases h.2 with ⟨h0, _⟩ | ⟨g, cap, cur, rfl, b, _⟩
  · omega
  · cases hk; exact b
theorem Ow.thru {w w' W : World} {B e sz n gr : Nat} {v : Value} {xs : List Value} (h : Ow B e sz v n xs w) (hg : gr < B) (hb : Bur gr w w') (hW : Below w.heap.size w' W) : Ow B e sz v n xs W :=
  h.keep (Nat.le_trans hb.size hW.size) fun k hk hz => (hW.block k hz).trans (hb.block k hz (by have := (h.blk k hk).1; omega))
/-- Rewriter, with the words themselves. -/
theorem rewriter_ws {ws : List ByteArray} {m : Nat} {ns : List Nat} (hp : Pt ws m) (hn : NewOk ws ns) (g gt : Nat) (u : Value) (w : World) (h : Sve g gt w) (ht : Tab gt (ftT ((wdS ws ns).map tl) ns m) w) (hv : St u ws w) :
    Calls Try.prog 20 #[.pointer (some ⟨g, 0, none⟩), u] w fun e w' => ∃ gr tv, e = .returned (.tuple #[.pointer (some ⟨gr, 0, none⟩), .int .i64 0]) ∧ Hid (Below w.heap.size w w' ∧ w.heap.size ≤ gr ∧ Rwt gr gt 0 0 0 tv 0 (List.replicate 63 0) w' ∧ St tv ws w' ∧ tv.ownBlock ≠ some gr ∧ ∀ k, tv.ownBlock = some k → w.heap.size ≤ k) := by
  have hln := hp.ln
  obtain ⟨h1, h2⟩ := ft_values hp hn
  refine (rewriter_any g gt _ ws (by omega) u w h ht hv).mono ?_
  rintro e w' ⟨hb, ⟨x, -⟩ | ⟨-, x, -⟩ | ⟨-, -, gr, tv, rfl, x1, x2, x3, x4, x5⟩⟩
  · exact absurd h1.symm x
  · rw [h2, pt_allF hp] at x; cases x
  · exact ⟨gr, tv, rfl, hb, x1, x2, x3, x4, x5⟩
attribute [local go_sem ↓] toApp toApB
set_option maxRecDepth 100000 in
set_option maxHeartbeats 3200000 in
theorem fed_any {ws : List ByteArray} {m : Nat} {ns : List Nat} (hp : Pt ws m) (hn : NewOk ws ns) (g gt : Nat) (u dv : Value) (D : List Nat) (hDb : Byt D) (hD0 : 0 < D.length) (hDl : D.length ≤ 536870912) (w : World) (hS : Sve g gt w) (hT : TabK w.heap.size gt (ftT ((wdS ws ns).map tl) ns m) w) (hu : St u ws w) (hd : Si .u8 dv D w) :
    Calls Try.prog 25 #[.pointer (some ⟨g, 0, none⟩), u, dv] w fun e w' => e = .returned (.bool true) ∧ Below w.heap.size w w' := by
  have C1 : Hid _ := scanner_any g gt w hS
  have HS : Hid (Sve g gt w) := hS
  have HT : Hid (TabK w.heap.size gt (ftT ((wdS ws ns).map tl) ns m) w) := hT
  have HU : Hid (St u ws w) := hu
  have HD : Hid (Si .u8 dv D w) := hd
  have HDB : Hid (Byt D) := hDb
  have HP : Hid (Pt ws m) := hp
  have HN : Hid (NewOk ws ns) := hn
  have HD0 : Hid (0 < D.length) := hD0
  have HDL : Hid (D.length ≤ 536870912) := hDl
  clear hS hT hu hd hDb hp hn hD0 hDl
  go_enter Try.func25, Try.ntmps25
  go_wp2_with fail
  refine Calls.mono C1.out ?_
  rintro e w1 ⟨rfl, hs1, hb1, hz1⟩
  clear C1
  have C2 : Hid _ := rewriter_ws HP.out HN.out g gt u w1 ((hb1.block g (Array.getElem?_eq_some_iff.1 HS.out).1).trans HS.out) (HT.out.keep hb1.size (fun j hj _ => hb1.block j hj)).tab (HU.out.below hb1)
  have HSC : Hid (Scn w.heap.size gt 0 0 0 w1 ∧ Below w.heap.size w w1 ∧ w1.heap.size = w.heap.size + 1) := ⟨hs1, hb1, hz1⟩
  clear hs1 hb1 hz1
  obtain ⟨gs, hgs⟩ : ∃ gs, gs = w.heap.size := ⟨_, rfl⟩
  have HG : Hid (gs = w.heap.size) := hgs
  rw [← hgs]
  clear hgs
  go_wp2_with fail
  refine Calls.mono C2.out ?_
  rintro e w2 ⟨gr, tv, rfl, HR2⟩
  clear C2
  obtain ⟨F2, c⟩ : Fdd ws m ns gs gr gt tv dv D w 0 w2 ∧ Fdc w gs gr tv dv := by
    obtain ⟨a1, a2, a3⟩ := HSC.out
    obtain ⟨b1, b2, b3, b4, b5, b6⟩ := HR2.out
    rw [HG.out]
    exact fdd_new HP.out HN.out HT.out HD.out a1 a2 a3 b1 b2 b3 b4 b5 b6
  have HC : Hid _ := c
  have C3 : Hid _ := F2.feedC c HP.out HN.out D HDB.out (by have := HDL.out; omega) (by omega) dv F2.dv
  have HZ2 : Hid (gs < w2.heap.size ∧ gr < w2.heap.size) := by
    obtain ⟨s, hh, y, _, h1, _⟩ := F2.sc
    have h2 := HR2.out.2.2.1
    exact ⟨(Array.getElem?_eq_some_iff.1 h1).1, (Array.getElem?_eq_some_iff.1 h2).1⟩
  clear F2 HR2 HSC c
  go_wp2_with fail
  refine Calls.mono C3.out ?_
  rintro e w3 ⟨a, A, rfl, hA, oa, F3, b3⟩
  clear C3
  have hDg : dv.ownBlock ≠ some gr := fun e => by have h1 := HC.out.d1 gr e; have h2 := HC.out.r; omega
  have HDG : Hid _ := hDg
  have C4 : Hid _ := F3.feedW HC.out HP.out HN.out D HDB.out (by have := HDL.out; omega) (by have := HDL.out; omega) dv F3.dv hDg
  have OA : Hid (Ow w2.heap.size 39 2 a A.length (hc A) w3 ∧ A.length ≤ 2 * D.length + 64) := ⟨oa, by omega⟩
  have Z3 : Hid (w2.heap.size ≤ w3.heap.size) := b3.size
  clear oa hA F3 b3 hDg
  go_wp2_with fail
  refine Calls.mono C4.out ?_
  rintro e w4 ⟨x, f, n4, X, rfl, hX, ox, F4, b4⟩
  clear C4
  have oa4 : Ow w2.heap.size 39 2 a A.length (hc A) w4 := OA.out.1.bur b4 HZ2.out.2
  obtain ⟨was, w5, r5, ow5, b5⟩ := run_cpH w4 31 a A (by have := OA.out.2; have := HDL.out; omega) (ow_hl oa4)
  have cx := conv_si (ow_si (ox.bel b5))
  have F5 := F4.below b5
  obtain ⟨p6, w6, r6, op6, b6⟩ := run_apB1 w5 23 0 dv D (by have := HDL.out; omega) HD0.out F5.dv
  have F6 := F5.below b6
  have e0 : (((0 : Nat) : Nat) : Int) = 0 := rfl
  rw [e0] at r6
  have hB0 : Byt (0 :: D) := fun y hy => by
    rcases List.mem_cons.1 hy with h | h
    · omega
    · exact HDB.out y h
  have HB0 : Hid _ := hB0
  have C7 : Hid _ := F6.feedC HC.out HP.out HN.out (0 :: D) hB0 (by have := HDL.out; simp; omega) (by have := HDL.out; omega) p6 (ow_si op6)
  have LA : Hid (Ow w2.heap.size 39 2 a A.length (hc A) w6 ∧ Ow w4.heap.size 39 2 was A.length (hc A) w6 ∧ Ow w3.heap.size 5 1 x X.length (ik .u8 X).toList w6 ∧ w2.heap.size ≤ w3.heap.size ∧ w3.heap.size ≤ w4.heap.size ∧ w4.heap.size ≤ w6.heap.size) := ⟨(oa4.bel b5).bel b6, ow5.bel b6, (ox.bel b5).bel b6, Z3.out, b4.size, Nat.le_trans b5.size b6.size⟩
  clear oa4 ow5 ox F4 F5 F6 b4 b5 b6 OA Z3 op6 hB0 hX e0
  obtain ⟨tx, htx⟩ : ∃ tx, tx = bst X := ⟨_, rfl⟩
  have HTX : Hid (tx = bst X) := htx
  rw [← htx] at cx
  clear htx
  go_wp2_with fail
  refine Calls.mono C7.out ?_
  rintro e w7 ⟨b, Bh, rfl, hBh, ob, F7, b7⟩
  clear C7 r5 r6 cx
  obtain ⟨p8, w8, r8, op8, b8⟩ := run_apB1 w7 23 0 dv D (by have := HDL.out; omega) HD0.out F7.dv
  have e0 : (((0 : Nat) : Nat) : Int) = 0 := rfl
  rw [e0] at r8
  have F8 := F7.below b8
  have hpg : p8.ownBlock ≠ some gr := fun e => by
    have h1 := op8.ob (by simp) gr e
    have h2 := HZ2.out.2
    have h3 := LA.out.2.2.2
    have h4 := b7.size
    omega
  have C9 : Hid _ := F8.feedW HC.out HP.out HN.out (0 :: D) HB0.out (by have := HDL.out; simp; omega) (by have := HDL.out; simp; omega) p8 (ow_si op8) hpg
  have HZS : Hid (w2.heap.size ≤ w3.heap.size ∧ w3.heap.size ≤ w4.heap.size ∧ w4.heap.size ≤ w6.heap.size ∧ w6.heap.size ≤ w8.heap.size) := ⟨LA.out.2.2.2.1, LA.out.2.2.2.2.1, LA.out.2.2.2.2.2, Nat.le_trans b7.size b8.size⟩
  have LB : Hid (Ow w2.heap.size 39 2 a A.length (hc A) w8 ∧ Ow w4.heap.size 39 2 was A.length (hc A) w8 ∧ Ow w3.heap.size 5 1 x X.length (ik .u8 X).toList w8 ∧ Ow w6.heap.size 39 2 b Bh.length (hc Bh) w8 ∧ Bh.length ≤ 4 * D.length + 100) := by
    have z := HZ2.out.1
    have q := HZS.out
    exact ⟨(LA.out.1.but b7 z).bel b8, (LA.out.2.1.but b7 (by omega)).bel b8, (LA.out.2.2.1.but b7 (by omega)).bel b8, ob.bel b8, by simp at hBh; omega⟩
  clear LA F7 F8 b7 b8 op8 ob hBh e0 hpg
  go_wp2_with fail
  refine Calls.mono C9.out ?_
  rintro e w9 ⟨y, f2, n9, Y, rfl, hY, oy, F9, b9⟩
  clear C9 r8
  have ob9 : Ow w6.heap.size 39 2 b Bh.length (hc Bh) w9 := LB.out.2.2.2.1.bur b9 (by have := HZ2.out.2; have := HZS.out; omega)
  obtain ⟨thn, w10, r10, ot10, b10⟩ := run_cpH w9 31 b Bh (by have := LB.out.2.2.2.2; have := HDL.out; omega) (ow_hl ob9)
  have cy := conv_si (ow_si (oy.bel b10))
  obtain ⟨ty, hty⟩ : ∃ ty, ty = bst Y := ⟨_, rfl⟩
  have HTY : Hid (ty = bst Y) := hty
  rw [← hty] at cy
  have F10 := F9.below b10
  have C11 : Hid _ := F10.feedC HC.out HP.out HN.out D HDB.out (by have := HDL.out; omega) (by have := HDL.out; simp; omega) dv F10.dv
  have LC : Hid (Ow w2.heap.size 39 2 a A.length (hc A) w10 ∧ Ow w4.heap.size 39 2 was A.length (hc A) w10 ∧ Ow w3.heap.size 5 1 x X.length (ik .u8 X).toList w10 ∧ Ow w6.heap.size 39 2 b Bh.length (hc Bh) w10 ∧ Ow w8.heap.size 5 1 y Y.length (ik .u8 Y).toList w10 ∧ Ow w9.heap.size 39 2 thn Bh.length (hc Bh) w10 ∧ w8.heap.size ≤ w9.heap.size) := by
    have z := HZ2.out.2
    have q := HZS.out
    exact ⟨(LB.out.1.bur b9 z).bel b10, (LB.out.2.1.bur b9 (by omega)).bel b10, (LB.out.2.2.1.bur b9 (by omega)).bel b10, ob9.bel b10, oy.bel b10, ot10, b9.size⟩
  clear LB F9 F10 b9 b10 oy ob9 ot10 hY hty
  go_wp2_with fail
  refine Calls.mono C11.out ?_
  rintro e w11 ⟨v11, H11, rfl, -, -, F11, b11⟩
  clear C11 r10 cy
  have C12 : Hid _ := F11.feedW HC.out HP.out HN.out D HDB.out (by have := HDL.out; omega) (by have := HDL.out; simp; omega) dv F11.dv HDG.out
  have LD : Hid (Ow w2.heap.size 39 2 a A.length (hc A) w11 ∧ Ow w4.heap.size 39 2 was A.length (hc A) w11 ∧ Ow w3.heap.size 5 1 x X.length (ik .u8 X).toList w11 ∧ Ow w6.heap.size 39 2 b Bh.length (hc Bh) w11 ∧ Ow w8.heap.size 5 1 y Y.length (ik .u8 Y).toList w11 ∧ Ow w9.heap.size 39 2 thn Bh.length (hc Bh) w11 ∧ w8.heap.size ≤ w9.heap.size) := by
    have z := HZ2.out.1
    have q := HZS.out
    obtain ⟨a1, a2, a3, a4, a5, a6, a7⟩ := LC.out
    exact ⟨a1.but b11 z, a2.but b11 (by omega), a3.but b11 (by omega), a4.but b11 (by omega), a5.but b11 (by omega), a6.but b11 (by omega), a7⟩
  clear LC F11 b11
  go_wp2_with fail
  refine Calls.mono C12.out ?_
  rintro e w12 ⟨v12, f12, n12, X12, rfl, -, -, F12, b12⟩
  clear C12
  have C13 : Hid _ := closeS ws m HP.out ns ws gr gt tv _ w12 F12.rw
  have LE : Hid (Ow w2.heap.size 39 2 a A.length (hc A) w12 ∧ Ow w4.heap.size 39 2 was A.length (hc A) w12 ∧ Ow w3.heap.size 5 1 x X.length (ik .u8 X).toList w12 ∧ Ow w6.heap.size 39 2 b Bh.length (hc Bh) w12 ∧ Ow w8.heap.size 5 1 y Y.length (ik .u8 Y).toList w12 ∧ Ow w9.heap.size 39 2 thn Bh.length (hc Bh) w12 ∧ w8.heap.size ≤ w9.heap.size ∧ Below w.heap.size w w12) := by
    have z := HZ2.out.2
    have q := HZS.out
    obtain ⟨a1, a2, a3, a4, a5, a6, a7⟩ := LD.out
    exact ⟨a1.bur b12 z, a2.bur b12 (by omega), a3.bur b12 (by omega), a4.bur b12 (by omega), a5.bur b12 (by omega), a6.bur b12 (by omega), a7, F12.bl⟩
  clear LD F12 b12
  go_wp2_with fail
  refine Calls.mono C13.out ?_
  rintro e w13 ⟨b13, z, f13, n13, Z, rfl, hZ, oz⟩
  clear C13
  have CS : Hid (∀ W, Below w12.heap.size w13 W → Calls Try.prog 15 #[a, was] W (fun e w' => e = .returned (.bool true) ∧ Below W.heap.size W w') ∧ Calls Try.prog 15 #[b, thn] W (fun e w' => e = .returned (.bool true) ∧ Below W.heap.size W w') ∧ (convert 23 9 x).run Try.prog W = .ok (.string tx) W ∧ (convert 23 9 y).run Try.prog W = .ok (.string ty) W ∧ Below w.heap.size w W) := fun W hW => by
    have z := HZ2.out.2
    have q := HZS.out
    have hr := HC.out.r
    obtain ⟨a1, a2, a3, a4, a5, a6, a7, a8⟩ := LE.out
    have s1 := same_gen A A a was W (ow_hl (a1.thru z b13 hW)) (ow_hl (a2.thru (by omega) b13 hW))
    have s2 := same_gen Bh Bh b thn W (ow_hl (a4.thru (by omega) b13 hW)) (ow_hl (a6.thru (by omega) b13 hW))
    simp only [decide_true] at s1 s2
    refine ⟨s1, s2, ?_, ?_, a8.trans ((but_below b13 hr a8.size).trans (hW.mono a8.size))⟩
    · rw [HTX.out]; exact conv_si (ow_si (a3.thru (by omega) b13 hW))
    · rw [HTY.out]; exact conv_si (ow_si (a5.thru (by omega) b13 hW))
  have H1213 : Hid (w12.heap.size ≤ w13.heap.size) := b13.size
  clear LE HZS HC HTX HTY b13
  obtain ⟨oZ, cZ, hzv, hzc, hzm, hzf⟩ := oz.form
  subst hzv
  have HF : Hid (∀ k, k < Z.length → ∃ g, oZ = some ⟨g, 0, none⟩ ∧ bk (.slice oZ Z.length cZ) = some g) := hzf
  have OZ : Hid (Ow w12.heap.size 5 1 (.slice oZ Z.length cZ) Z.length (ik .u8 Z).toList w13) := oz
  clear hzf oz hzc hzm
  generalize Z.length = nz at *
  go_wp2_with fail
  go_loopw [25] (fun iv wr => ∃ i : Nat, iv = .int .i64 (i : Int) ∧ i ≤ nz ∧ Hid (∃ xs, Ow w12.heap.size 5 1 (.slice oZ nz cZ) nz xs wr ∧ Below w12.heap.size w13 wr)) (fun iv _ => nz - (intOf iv).toNat)
  case atStart => exact ⟨0, rfl, by omega, _, OZ.out, Below.refl _ _⟩
  case round =>
    obtain ⟨i, rfl, hi, HI⟩ := hrel
    by_cases hlt : i < nz
    · obtain ⟨gz, rfl, hbk⟩ := HF.out i hlt
      obtain ⟨xs, ox, hbx⟩ := HI.out
      have hxl : xs.length = nz * 1 := ox.1
      have hi0 : (0 : Int) ≤ (i : Int) := by omega
      have hi1 : (i : Int) < (nz : Int) := by omega
      obtain ⟨u0, hu0⟩ : ∃ u0, xs[i]? = some u0 := ⟨_, List.getElem?_eq_getElem (by omega)⟩
      have cz := ox.cell hbk i u0 hu0
      have fz := ox.frozen hbk i
      have HN2 : Hid (∃ xs, Ow w12.heap.size 5 1 (.slice (some ⟨gz, 0, none⟩) nz cZ) nz xs (wr.setCell ⟨gz, i, none⟩ (.int .u8 60)) ∧ Below w12.heap.size w13 (wr.setCell ⟨gz, i, none⟩ (.int .u8 60))) := ⟨_, ox.set hbk i _, hbx.setCell (p := ⟨gz, i, none⟩) (ox.blk gz hbk).1 _⟩
      clear HI ox hbx hxl hu0 hbk OZ HF
      go_wp2
      go_roundw
      case rel => exact ⟨i + 1, by simp, by omega, HN2.out⟩
      case measure => simp [intOf]; omega
    · have hin : i = nz := by omega
      subst hin
      obtain ⟨xs, ox, hbx⟩ := HI.out
      obtain ⟨s1, s2, k1, k2, hend⟩ := CS.out wr hbx
      have S1 : Hid _ := s1
      have HBX : Hid _ := hbx
      clear hi hlt OZ HF HI ox hbx s1 s2 k1 k2 hend hZ
      by_cases hf : f = 0
      · subst hf
        by_cases hf2 : f2 = 0
        · subst hf2
          go_wp2_with fail
          refine Calls.mono S1.out ?_
          rintro e W1 ⟨rfl, hb1⟩
          have hB1 : Below w12.heap.size w13 W1 := HBX.out.trans (hb1.mono (Nat.le_trans H1213.out HBX.out.size))
          obtain ⟨-, s2, k1, -, -⟩ := CS.out W1 hB1
          have S2 : Hid _ := s2
          have HB1 : Hid _ := hB1
          clear s2 hB1 hb1 S1 HBX
          go_wp2_with fail
          refine Calls.mono S2.out ?_
          rintro e W2 ⟨rfl, hb2⟩
          have hB2 : Below w12.heap.size w13 W2 := HB1.out.trans (hb2.mono (Nat.le_trans H1213.out HB1.out.size))
          obtain ⟨-, -, -, k2, hend⟩ := CS.out W2 hB2
          have HE : Hid _ := hend
          clear k1 S2 hB2 hb2 HB1 CS hend
          go_wp2
          go_ret
          exact ⟨rfl, HE.out⟩
        · go_wp2_with fail
          refine Calls.mono S1.out ?_
          rintro e W1 ⟨rfl, hb1⟩
          have hB1 : Below w12.heap.size w13 W1 := HBX.out.trans (hb1.mono (Nat.le_trans H1213.out HBX.out.size))
          obtain ⟨-, s2, k1, -, -⟩ := CS.out W1 hB1
          have S2 : Hid _ := s2
          have HB1 : Hid _ := hB1
          clear s2 hB1 hb1 S1 HBX
          go_wp2_with fail
          refine Calls.mono S2.out ?_
          rintro e W2 ⟨rfl, hb2⟩
          have hB2 : Below w12.heap.size w13 W2 := HB1.out.trans (hb2.mono (Nat.le_trans H1213.out HB1.out.size))
          obtain ⟨-, -, -, k2, hend⟩ := CS.out W2 hB2
          have HE : Hid _ := hend
          clear k1 S2 hB2 hb2 HB1 CS hend
          go_wp2
          go_ret
          exact ⟨rfl, HE.out⟩
      · go_wp2_with fail
        refine Calls.mono S1.out ?_
        rintro e W1 ⟨rfl, hb1⟩
        have hB1 : Below w12.heap.size w13 W1 := HBX.out.trans (hb1.mono (Nat.le_trans H1213.out HBX.out.size))
        obtain ⟨-, s2, k1, -, -⟩ := CS.out W1 hB1
        have S2 : Hid _ := s2
        have HB1 : Hid _ := hB1
        clear s2 hB1 hb1 S1 HBX
        go_wp2_with fail
        refine Calls.mono S2.out ?_
        rintro e W2 ⟨rfl, hb2⟩
        have hB2 : Below w12.heap.size w13 W2 := HB1.out.trans (hb2.mono (Nat.le_trans H1213.out HB1.out.size))
        obtain ⟨-, -, -, k2, hend⟩ := CS.out W2 hB2
        have HE : Hid _ := hend
        clear k1 S2 hB2 hb2 HB1 CS hend
        go_wp2
        go_ret
        exact ⟨rfl, HE.out⟩
end Go.Proofs.Ytceaklefdahfkab

/- SieveFresh: a sieve as it lies, and what its calls answer. -/
namespace Go.Proofs.Ytceaklefdahfkab
open Go.RowKit
/-- A sieve of some words: all that it is lies between B and K. -/
structure SvL (ws : List ByteArray) (m : Nat) (ns : List Nat) (g gt B K : Nat) (w : World) : Prop where
  ok : NewOk ws ns
  sv : Sve g gt w
  g1 : B ≤ g
  g2 : g < K
  tb : TabB B K gt (ftT ((wdS ws ns).map tl) ns m) w
  kz : K ≤ w.heap.size
variable {ws : List ByteArray} {m : Nat} {ns : List Nat} {g gt B K : Nat} {w w' : World}
theorem SvL.keep (h : SvL ws m ns g gt B K w) (hs : w.heap.size ≤ w'.heap.size) (hb : ∀ j, B ≤ j → j < K → w'.heap[j]? = w.heap[j]?) : SvL ws m ns g gt B K w' :=
  ⟨h.ok, (hb g h.g1 h.g2).trans h.sv, h.g1, h.g2, h.tb.keep hs (fun j h1 h2 _ => hb j h1 h2), Nat.le_trans h.kz hs⟩
theorem SvL.below (h : SvL ws m ns g gt B K w) (hb : Below w.heap.size w w') : SvL ws m ns g gt B K w' :=
  h.keep hb.size fun j _ h2 => hb.block j (by have := h.kz; omega)
theorem SvL.tk (h : SvL ws m ns g gt B K w) : TabK w.heap.size gt (ftT ((wdS ws ns).map tl) ns m) w := (h.tb.mono h.kz).tabK
theorem new_f (hp : Pt ws m) (hnd : (ws.map tl).Nodup) (v : Value) (w : World) (hv : St v ws w) :
    Calls Try.prog 10 #[v] w fun e w' => ∃ ns g gt, e = .returned (.tuple #[.pointer (some ⟨g, 0, none⟩), .int .i64 0]) ∧ Hid (SvL ws m ns g gt w.heap.size w'.heap.size w' ∧ Below w.heap.size w w') := by
  have hw := hp.wdO
  have hl := hp.ln
  refine (new_b ws (by omega) (fun s hs => by rw [hp.sz s hs]; have := hp.m1; omega) (fun v w h => byText_b ws h v w) v w hv).mono ?_
  rintro e w' ⟨h, hb⟩
  rcases h with ⟨h1, _⟩ | ⟨_, h1, _⟩ | ⟨_, _, ns, hs, ⟨i, hi, ht⟩, _⟩ | ⟨_, _, ns, hok, g, gt, he, h1, h2, h3⟩
  · omega
  · rw [hw] at h1; cases h1
  · have q1 := hs.lt i (by omega)
    have q2 := hs.lt (i + 1) (by omega)
    have hnn : ns.Nodup := hs.perm.nodup_iff.2 List.nodup_range
    have hnl := hs.len
    rw [txt_eq q1, txt_eq q2] at ht
    have h3 : (ws.map tl)[ns.getD i 0]'(by simpa using q1) = (ws.map tl)[ns.getD (i + 1) 0]'(by simpa using q2) := by rw [List.getElem_map, List.getElem_map]; exact ht
    have := (List.getElem_inj (h₀ := by simpa using q1) (h₁ := by simpa using q2) hnd).1 h3
    have e1 : ns.getD i 0 = ns[i]'(by omega) := by simp [List.getD, show i < ns.length by omega]
    have e2 : ns.getD (i + 1) 0 = ns[i + 1]'(by omega) := by simp [List.getD, show i + 1 < ns.length by omega]
    rw [e1, e2] at this
    have := (List.getElem_inj (h₀ := by omega) (h₁ := by omega) hnn).1 this
    omega
  · rw [hw] at h3
    exact ⟨ns, g, gt, he, ⟨hok, h1, h2, (Array.getElem?_eq_some_iff.1 h1).1, h3, Nat.le_refl _⟩, hb⟩
theorem scan_f (hp : Pt ws m) (h : SvL ws m ns g gt B K w) (p : List Nat) (hpb : Byt p) (hpl : p.length ≤ 1073741824) (pv : Value) (hpv : Si .u8 pv p w) :
    Calls Try.prog 11 #[.pointer (some ⟨g, 0, none⟩), pv] w fun e w' => ∃ v, e = .returned v ∧ Hid (Ow w.heap.size 39 2 v (hts (ws.map tl) m p).length (hc (hts (ws.map tl) m p)) w' ∧ Below w.heap.size w w') := by
  refine (scan_hts ws m hp ns h.ok g gt p hpb (by omega) pv w h.sv h.tk hpv).mono ?_
  rintro e w' ⟨v, rfl, h1, h2⟩
  exact ⟨v, rfl, own_ow h1, h2⟩
/-- What Rewrite answers. -/
def rwA (m : Nat) (T : List ByteArray) (D : List Nat) (H : List (Int × Int)) : Int × Int × List Nat := if (ovP 0 m H).2 = true then (52, (ovP 0 m H).1, []) else (0, 0, puts T 0 D H)
theorem rewrite_f (hp : Pt ws m) (h : SvL ws m ns g gt B K w) (T : List ByteArray) (hTl : T.length = ws.length) (hTa : allW m T = true) (D : List Nat) (hDb : Byt D) (hDl : D.length ≤ 1073741824) (tvl dv : Value) (hT : St tvl T w) (hD : Si .u8 dv D w) :
    Calls Try.prog 13 #[.pointer (some ⟨g, 0, none⟩), dv, tvl] w fun e w' => ∃ v, e = .returned (.tuple #[v, .int .i64 (rwA m T D (hts (ws.map tl) m D)).1, .int .i64 (rwA m T D (hts (ws.map tl) m D)).2.1]) ∧ Hid (Ow w.heap.size 5 1 v (rwA m T D (hts (ws.map tl) m D)).2.2.length (ik .u8 (rwA m T D (hts (ws.map tl) m D)).2.2).toList w' ∧ (rwA m T D (hts (ws.map tl) m D)).2.2.length ≤ D.length ∧ Below w.heap.size w w') := by
  have hln := hp.ln
  refine (rewrite_hts ws m hp ns h.ok g gt T (by omega) tvl dv D hDb hDl w h.sv h.tk hT hD).mono ?_
  rintro e w' ⟨hb, ⟨x, _⟩ | ⟨_, x, _⟩ | ⟨_, _, x, rfl⟩ | ⟨_, _, x, v, rfl, ho⟩⟩
  · exact absurd hTl x
  · rw [hTa] at x; cases x
  · unfold rwA
    rw [if_pos x]
    exact ⟨_, rfl, ⟨rfl, .inl ⟨rfl, none, rfl, fun a e => by cases e⟩⟩, by simp, hb⟩
  · unfold rwA
    rw [if_neg (by rw [x]; simp)]
    have hl : (puts T 0 D (hts (ws.map tl) m D)).length = D.length := by have := ho.1; simpa [ik] using this
    exact ⟨_, rfl, by rw [hl]; exact own_ow ho, by rw [hl]; exact Nat.le_refl _, hb⟩
theorem mask_f (hp : Pt ws m) (h : SvL ws m ns g gt B K w) (D : List Nat) (hDb : Byt D) (hDl : D.length ≤ 1073741824) (dv : Value) (hD : Si .u8 dv D w) :
    Calls Try.prog 14 #[.pointer (some ⟨g, 0, none⟩), dv] w fun e w' => ∃ v hv f n X H, e = .returned (.tuple #[v, hv, .int .i64 f, .int .i64 n]) ∧ Hid (Ow w.heap.size 5 1 v X.length (ik .u8 X).toList w' ∧ Ow w.heap.size 39 2 hv H.length (hc H) w' ∧ X.length ≤ D.length ∧ H.length ≤ D.length ∧ Below w.heap.size w w') := by
  refine (mask_hts ws m hp ns h.ok g gt dv D hDb hDl w h.sv h.tk hD).mono ?_
  rintro e w' ⟨hb, ⟨_, rfl⟩ | ⟨_, v, hv, rfl, h1, h2⟩⟩
  · exact ⟨_, _, _, _, [], [], rfl, ⟨rfl, .inl ⟨rfl, none, rfl, fun a e => by cases e⟩⟩, ⟨rfl, .inl ⟨rfl, none, rfl, fun a e => by cases e⟩⟩, by simp, by simp, hb⟩
  · have hl : (puts (List.replicate ws.length (zst m)) 0 D (hts (ws.map tl) m D)).length = D.length := by have := h1.1; simpa [ik] using this
    exact ⟨_, _, _, _, puts (List.replicate ws.length (zst m)) 0 D (hts (ws.map tl) m D), hts (ws.map tl) m D, rfl, by rw [hl]; exact own_ow h1, own_ow h2, by rw [hl]; exact Nat.le_refl _, hts_len _ _ _ hp.m0, hb⟩
theorem len_f (hp : Pt ws m) (h : SvL ws m ns g gt B K w) : Calls Try.prog 51 #[.pointer (some ⟨g, 0, none⟩)] w fun e w' => e = .returned (.int .i64 (ws.length : Int)) ∧ w' = w := by
  have := len_any g gt _ w h.sv h.tk.tab
  rw [(ft_values hp h.ok).1] at this
  exact this
/-- Words in the other order. -/
theorem pt_rev (hp : Pt ws m) : Pt ws.reverse m := ⟨by simpa using hp.ne, hp.m0, hp.m1, by rw [List.length_reverse]; exact hp.ln, fun s hs => hp.sz s (List.mem_reverse.1 hs)⟩
theorem nd_rev (h : (ws.map tl).Nodup) : (ws.reverse.map tl).Nodup := by rw [List.map_reverse]; exact (List.reverse_perm _).nodup_iff.2 h
theorem idx_rev {L : List (List Nat)} (hnd : L.Nodup) {x : List Nat} (hx : x ∈ L) : L.reverse.idxOf x = L.length - 1 - L.idxOf x := by
  have h1 := List.idxOf_lt_length_of_mem hx
  have hr : L.reverse.Nodup := (List.reverse_perm L).nodup_iff.2 hnd
  have hk : L.length - 1 - L.idxOf x < L.reverse.length := by rw [List.length_reverse]; omega
  have e1 : L.reverse[L.length - 1 - L.idxOf x] = x := by
    rw [List.getElem_reverse]
    have : L.length - 1 - (L.length - 1 - L.idxOf x) = L.idxOf x := by omega
    simp only [this]
    exact List.getElem_idxOf h1
  have h2 : L.reverse.idxOf x < L.reverse.length := List.idxOf_lt_length_of_mem (List.mem_reverse.2 hx)
  have e2 : L.reverse[L.reverse.idxOf x] = x := List.getElem_idxOf h2
  exact (List.getElem_inj (h₀ := h2) (h₁ := hk) hr).1 (e2.trans e1.symm)
/-- The hits of words in the other order. -/
def rvH (n : Nat) (p : Int × Int) : Int × Int := (p.1, (n : Int) - 1 - p.2)
theorem hts_rev {L : List (List Nat)} (hnd : L.Nodup) (m : Nat) (D : List Nat) : hts L.reverse m D = (hts L m D).map (rvH L.length) := by
  unfold hts
  rw [List.map_flatMap]
  congr 1
  funext i
  unfold htA
  by_cases hx : (D.drop i).take m ∈ L
  · rw [if_pos (List.mem_reverse.2 hx), if_pos hx, idx_rev hnd hx]
    have h1 := List.idxOf_lt_length_of_mem hx
    simp only [List.map_cons, List.map_nil, rvH]
    rw [show ((L.length - 1 - L.idxOf (List.take m (List.drop i D)) : Nat) : Int) = (L.length : Int) - 1 - (L.idxOf (List.take m (List.drop i D)) : Int) by omega]
  · rw [if_neg (fun h => hx (List.mem_reverse.1 h)), if_neg hx]
    rfl
theorem all_rev (hp : Pt ws m) : allW m ws.reverse = true := pt_allF (pt_rev hp)
theorem byt_rev {D : List Nat} (h : Byt D) : Byt D.reverse := fun x hx => h x (List.mem_reverse.1 hx)
/-- The first i elements are those of the list turned about. -/
def trn {α : Type} (l : List α) (i : Nat) : List α := l.reverse.take i ++ l.drop i
theorem trn_len {α : Type} (l : List α) (i : Nat) : (trn l i).length = l.length := by
  unfold trn
  rw [List.length_append, List.length_take, List.length_drop, List.length_reverse]; omega
theorem trn_0 {α : Type} (l : List α) : trn l 0 = l := by simp [trn]
theorem trn_end {α : Type} (l : List α) : trn l l.length = l.reverse := by
  unfold trn
  rw [List.take_of_length_le (by rw [List.length_reverse]; exact Nat.le_refl _), List.drop_length, List.append_nil]
theorem trn_set {α : Type} (l : List α) (i : Nat) (hi : i < l.length) (x : α) (hx : l[l.length - 1 - i]? = some x) : (trn l i).set i x = trn l (i + 1) := by
  unfold trn
  have h1 : (l.reverse.take i).length = i := by rw [List.length_take, List.length_reverse]; omega
  rw [List.set_append_right _ _ (by omega), h1, Nat.sub_self, List.drop_eq_getElem_cons hi, List.set_cons_zero]
  have h2 : l.reverse[i]? = some x := by rw [List.getElem?_reverse hi]; exact hx
  rw [List.take_add_one, h2]
  simp
end Go.Proofs.Ytceaklefdahfkab
