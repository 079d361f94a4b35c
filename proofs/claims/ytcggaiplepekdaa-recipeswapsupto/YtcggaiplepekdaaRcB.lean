/- Recipes: fresh, spare, texts. -/
import Derived.Test.YtcggaiplepekdaaRcA
namespace Go.Proofs.Ytcggaiplepekdaa
open Go.RowKit
abbrev S := ByteArray
def sR (s : S) : Array Value := #[.string s]
abbrev Out := S × S × S × S
def oR (x : Out) : Array Value := #[.string x.1, .string x.2.1, .string x.2.2.1, .string x.2.2.2]
abbrev Pai := S × S
def eR (x : Pai) : Array Value := #[.string x.1, .string x.2]
def BEH : S := ⟨#[98, 101, 104, 105, 110, 100]⟩
theorem rs_s (l : List S) : Rs 1 (l.map sR) := fun c hc => by
  obtain ⟨x, _, rfl⟩ := List.mem_map.1 hc
  exact ⟨rfl, by simp [sR, Value.oneCell']⟩
theorem rs_o (l : List Out) : Rs 4 (l.map oR) := fun c hc => by
  obtain ⟨x, _, rfl⟩ := List.mem_map.1 hc
  exact ⟨rfl, by simp [oR, Value.oneCell']⟩
theorem rs_e (l : List Pai) : Rs 2 (l.map eR) := fun c hc => by
  obtain ⟨x, _, rfl⟩ := List.mem_map.1 hc
  exact ⟨rfl, by simp [eR, Value.oneCell']⟩
/-- One row that was just laid. -/
theorem ls_one (w : World) (c : Array Value) (e sz : Nat) (hc : c.size = sz) (h1 : c.all (·.oneCell') = true) : Ls (w.alloc (.cells c e)) (.slice (some ⟨w.heap.size, 0, none⟩) 1 1) sz [c] := by
  refine ⟨some ⟨w.heap.size, 0, none⟩, 1, rfl, (fun q => by cases q), Nat.le_refl _, by unfold maxLen; omega, (fun d hd => by simp at hd; subst hd; exact ⟨hc, h1⟩), fun i d hd => ⟨w.heap.size, 0, rfl, by simp, ?_⟩⟩
  have hi : i = 0 := by have := (List.getElem?_eq_some_iff.1 hd).1; simpa using this
  subst hi
  obtain rfl : c = d := by simpa using hd
  intro j u hu
  rw [Nat.zero_mul, Nat.zero_add, cell_of_row _ _ _ _ _ _ (heap_alloc_new _ _)]
  simpa using hu
theorem drew_bel {W w : World} (h : ∃ m, w = W.drewN m) : Below W.heap.size W w := by
  obtain ⟨m, rfl⟩ := h
  exact ⟨rfl, rfl, rfl, Nat.le_refl _, fun _ _ => rfl⟩
theorem drew_more {W w : World} (h : ∃ m, w = W.drewN m) : ∃ m, w.drew = W.drewN m := by
  obtain ⟨m, rfl⟩ := h
  exact ⟨m + 1, rfl⟩
def FrP (W : World) (e sz : Nat) (l : List (Array Value)) (en : Ending) (w' : World) : Prop := ∃ v', en = .returned v' ∧ Ol W.heap.size e sz w' v' l ∧ Below W.heap.size W w'
section
attribute [local go_sem ↓] toApO toApI toApS toApP
set_option maxRecDepth 100000 in
theorem freshO (W : World) (v : Value) (l : List (Array Value)) (h : Ls W v 4 l) (hl : l.length ≤ MX) : Calls Try.prog 33 #[v] W (FrP W 39 4 l) := by
  obtain ⟨v', w', hr, hP⟩ := run_apO W W.heap.size (.slice none 0 0) v [] l (ol_nil _ _ _ _) h (by simpa using hl) (Nat.le_refl _)
  have HP : Hid _ := hP
  obtain ⟨oa, cap, hv, -⟩ := id h
  obtain ⟨n, hn⟩ : ∃ n, l.length = n := ⟨_, rfl⟩
  rw [hn] at hv
  subst hv
  obtain ⟨o', n', c', hv'⟩ : ∃ a b c, v' = .slice a b c := by
    rcases hP.1.1.2 with ⟨q, _⟩ | ⟨_, _, _, q, _⟩ <;> exact ⟨_, _, _, q⟩
  subst hv'
  clear h hl hP hn
  go_enter Try.func33, Try.ntmps33
  go_wp2_with fail
  go_ret
  exact ⟨_, rfl, by simpa using HP.out.1, ApP.fresh HP.out⟩
set_option maxRecDepth 100000 in
theorem freshI (W : World) (v : Value) (l : List (Array Value)) (h : Ls W v 2 l) (hl : l.length ≤ MX) : Calls Try.prog 34 #[v] W (FrP W 42 2 l) := by
  obtain ⟨v', w', hr, hP⟩ := run_apI W W.heap.size (.slice none 0 0) v [] l (ol_nil _ _ _ _) h (by simpa using hl) (Nat.le_refl _)
  have HP : Hid _ := hP
  obtain ⟨oa, cap, hv, -⟩ := id h
  obtain ⟨n, hn⟩ : ∃ n, l.length = n := ⟨_, rfl⟩
  rw [hn] at hv
  subst hv
  obtain ⟨o', n', c', hv'⟩ : ∃ a b c, v' = .slice a b c := by
    rcases hP.1.1.2 with ⟨q, _⟩ | ⟨_, _, _, q, _⟩ <;> exact ⟨_, _, _, q⟩
  subst hv'
  clear h hl hP hn
  go_enter Try.func34, Try.ntmps34
  go_wp2_with fail
  go_ret
  exact ⟨_, rfl, by simpa using HP.out.1, ApP.fresh HP.out⟩
set_option maxRecDepth 100000 in
theorem freshS (W : World) (v : Value) (l : List (Array Value)) (h : Ls W v 1 l) (hl : l.length ≤ MX) : Calls Try.prog 35 #[v] W (FrP W 9 1 l) := by
  obtain ⟨v', w', hr, hP⟩ := run_apS W W.heap.size (.slice none 0 0) v [] l (ol_nil _ _ _ _) h (by simpa using hl) (Nat.le_refl _)
  have HP : Hid _ := hP
  obtain ⟨oa, cap, hv, -⟩ := id h
  obtain ⟨n, hn⟩ : ∃ n, l.length = n := ⟨_, rfl⟩
  rw [hn] at hv
  subst hv
  obtain ⟨o', n', c', hv'⟩ : ∃ a b c, v' = .slice a b c := by
    rcases hP.1.1.2 with ⟨q, _⟩ | ⟨_, _, _, q, _⟩ <;> exact ⟨_, _, _, q⟩
  subst hv'
  clear h hl hP hn
  go_enter Try.func35, Try.ntmps35
  go_wp2_with fail
  go_ret
  exact ⟨_, rfl, by simpa using HP.out.1, ApP.fresh HP.out⟩
set_option maxRecDepth 100000 in
theorem freshP (W : World) (v : Value) (l : List (Array Value)) (h : Ls W v 2 l) (hl : l.length ≤ MX) : Calls Try.prog 36 #[v] W (FrP W 44 2 l) := by
  obtain ⟨v', w', hr, hP⟩ := run_apP W W.heap.size (.slice none 0 0) v [] l (ol_nil _ _ _ _) h (by simpa using hl) (Nat.le_refl _)
  have HP : Hid _ := hP
  obtain ⟨oa, cap, hv, -⟩ := id h
  obtain ⟨n, hn⟩ : ∃ n, l.length = n := ⟨_, rfl⟩
  rw [hn] at hv
  subst hv
  obtain ⟨o', n', c', hv'⟩ : ∃ a b c, v' = .slice a b c := by
    rcases hP.1.1.2 with ⟨q, _⟩ | ⟨_, _, _, q, _⟩ <;> exact ⟨_, _, _, q⟩
  subst hv'
  clear h hl hP hn
  go_enter Try.func36, Try.ntmps36
  go_wp2_with fail
  go_ret
  exact ⟨_, rfl, by simpa using HP.out.1, ApP.fresh HP.out⟩
set_option maxRecDepth 100000 in
theorem spare_any (W : World) (v : Value) (l : List S) (h : Ls W v 1 (l.map sR)) (hl : l.length < 10000000000) : Calls Try.prog 9 #[v] W (FrP W 9 1 ((l ++ [BEH]).map sR)) := by
  obtain ⟨v', w', hr, hP⟩ := run_apS W W.heap.size (.slice none 0 0) v [] (l.map sR) (ol_nil _ _ _ _) h (by unfold MX; simp; omega) (Nat.le_refl _)
  have hb := hP.fresh
  rw [List.nil_append] at hP
  have hA : Ol W.heap.size 9 1 (w'.alloc (.cells #[.string BEH] 9)) v' (l.map sR) := ⟨hP.1.1.alloc _, hP.1.2⟩
  obtain ⟨v2, w2, hr2, hP2⟩ := run_apS (w'.alloc (.cells #[.string BEH] 9)) W.heap.size v' (.slice (some ⟨w'.heap.size, 0, none⟩) 1 1) (l.map sR) [sR BEH] hA (ls_one w' (sR BEH) 9 1 rfl (by simp [sR, Value.oneCell'])) (by unfold MX; simp; omega) (by have := hb.size; simp; omega)
  have HP : Hid (Ol W.heap.size 9 1 w2 v2 ((l ++ [BEH]).map sR) ∧ Below W.heap.size W w2) := by
    refine ⟨by rw [List.map_append]; exact hP2.1, ?_⟩
    have hbA : Below W.heap.size W (w'.alloc (.cells #[.string BEH] 9)) := hb.alloc hb.size _
    exact ⟨hP2.2.1.os.trans hbA.os, hP2.2.1.tape.trans hbA.tape, hP2.2.1.output.trans hbA.output, Nat.le_trans hbA.size hP2.2.1.size, fun j hj => (hP2.2.1.block j (Nat.lt_of_lt_of_le hj hbA.size) (fun q => by have := (hP.1.1.lt j q.symm).1; omega)).trans (hbA.block j hj)⟩
  obtain ⟨oa, cap, hv, -⟩ := id h
  obtain ⟨n, hn⟩ : ∃ n, (l.map sR).length = n := ⟨_, rfl⟩
  rw [hn] at hv
  subst hv
  obtain ⟨o', n', c', hv'⟩ : ∃ a b c, v' = .slice a b c := by
    rcases hP.1.1.2 with ⟨q, _⟩ | ⟨_, _, _, q, _⟩ <;> exact ⟨_, _, _, q⟩
  subst hv'
  obtain ⟨o2, n2, c2, hv2⟩ : ∃ a b c, v2 = .slice a b c := by
    rcases hP2.1.1.2 with ⟨q, _⟩ | ⟨_, _, _, q, _⟩ <;> exact ⟨_, _, _, q⟩
  subst hv2
  unfold BEH at hr2
  clear h hl hP hn hb hA hP2
  go_enter Try.func9, Try.ntmps9
  go_wp2_with fail
  go_ret
  exact ⟨_, rfl, HP.out.1, HP.out.2⟩
set_option maxRecDepth 100000 in
theorem texts_eq (W : World) (a b : Value) (l : List S) (ha : Ls W a 1 (l.map sR)) (hb : Ls W b 1 (l.map sR)) (hmx : l.length ≤ MX) : Calls Try.prog 17 #[a, b] W fun e w' => e = .returned (.bool true) ∧ ∃ m, w' = W.drewN m := by
  obtain ⟨oa, ca, rfl, -, -, -, -, ca'⟩ := ha
  obtain ⟨ob, cb, rfl, -, -, -, -, cb'⟩ := hb
  obtain ⟨n, hn⟩ : ∃ n, (l.map sR).length = n := ⟨_, rfl⟩
  have hnl : l.length = n := by simpa using hn
  rw [hn]
  have HC : Hid (∀ w, Below W.heap.size W w → ∀ i, i < n → ∃ s ga pa gb pb, oa = some ⟨ga, pa, none⟩ ∧ ob = some ⟨gb, pb, none⟩ ∧ w.cell? ⟨ga, pa + i, none⟩ = some (.string s) ∧ w.cell? ⟨gb, pb + i, none⟩ = some (.string s)) := fun w hw i hi => by
    have hl : (l.map sR)[i]? = some (sR l[i]) := by rw [List.getElem?_map, List.getElem?_eq_getElem (by omega)]; rfl
    obtain ⟨ga, pa, e1, g1, r1⟩ := ca' i _ hl
    obtain ⟨gb, pb, e2, g2, r2⟩ := cb' i _ hl
    have k1 := range_block r1 (hw.block _ g1) 0 (.string l[i]) rfl
    have k2 := range_block r2 (hw.block _ g2) 0 (.string l[i]) rfl
    rw [Nat.mul_one, Nat.add_zero] at k1 k2
    exact ⟨l[i], ga, pa, gb, pb, e1, e2, k1, k2⟩
  have HM : Hid (n < 9000000000000000000) := by unfold MX at hmx; show n < _; omega
  clear ca' cb' hn hnl hmx
  go_enter Try.func17, Try.ntmps17
  go_wp2_with fail
  go_loopw [5] (fun iv wr => ∃ i : Nat, iv = .int .i64 (i : Int) ∧ Hid (i ≤ n ∧ ∃ m, wr = W.drewN m)) (fun iv _ => n + 1 - (intOf iv).toNat)
  case atStart => exact ⟨0, rfl, Nat.zero_le _, 0, rfl⟩
  case round =>
    obtain ⟨i, rfl, HI⟩ := hrel
    by_cases hi : i < n
    · obtain ⟨s, ga, pa, gb, pb, rfl, rfl, c1, c2⟩ := HC.out wr (drew_bel HI.out.2) i hi
      have hi0 : (0 : Int) ≤ (i : Int) := by omega
      have hi1 : (i : Int) < (n : Int) := by omega
      have w1 : IntKind.i64.wrap ((i : Int) + 1) = (i : Int) + 1 := by rw [IntKind.wrap_i64]; have := HM.out; omega
      have HL : Hid (i < n) := hi
      have d1 : wr.drew.cell? ⟨ga, pa + i, none⟩ = some (.string s) := c1
      have d2 : wr.drew.cell? ⟨gb, pb + i, none⟩ = some (.string s) := c2
      clear hi
      go_wp2_with fail
      go_region
      go_wp2_with fail
      go_roundw
      case rel => exact ⟨i + 1, by go_num, HL.out, drew_more HI.out.2⟩
      case measure => have := HL.out; simp [intOf]; omega
    · have hi2 : ¬ ((i : Int) < (n : Int)) := by omega
      clear hi
      go_wp2_with fail
      go_ret
      exact ⟨rfl, HI.out.2⟩
end
end Go.Proofs.Ytcggaiplepekdaa
