/- The sieve's rewriter: how it lies; overlap, finish. -/
import Derived.Test.YtceaklefdahfkaaRw1
import Derived.Test.YtceaklefdahfkaaRw2
namespace Go.Proofs.Ytceaklefdahfkaa
open Go.RowKit
/-- A rewriter's cells behind its scanner's. -/
def rX (tv : Value) (f : Int) (K : List Nat) (dn : Bool) : List Value := tv :: .int .i64 f :: (K.map (fun (x : Nat) => Value.int .u8 (x : Int)) ++ [.bool dn])
/-- The cells of one that is done. -/
def finC (n h : Nat) : List Value := .pointer none :: .int .i32 0 :: .int .i64 (n : Int) :: .int .i64 (h : Int) :: rX (.slice none 0 0) 0 (List.replicate 63 0) true
theorem zero85 : Try.zeroCells85 = (.pointer none :: .int .i32 0 :: .int .i64 0 :: .int .i64 0 :: rX (.slice none 0 0) 0 (List.replicate 63 0) false).toArray := by kernel_rfl
theorem finC_eq (n h : Nat) : (((((Try.zeroCells85.toList.set 0 (Value.pointer none)).set 1 (Value.int IntKind.i32 0)).set 2 (Value.int IntKind.i64 ↑n)).set 3 (Value.int IntKind.i64 ↑h)).set 69 (Value.bool true)) = finC n h := by
  rw [zero85]
  rfl
theorem finC_one (n h : Nat) : ∀ v ∈ finC n h, v.oneCell' = true := by
  intro v hv
  simp [finC, rX] at hv
  rcases hv with rfl | rfl | rfl | rfl | rfl | rfl | rfl | rfl <;> rfl
theorem finC_len (n h : Nat) : (finC n h).length = 70 := by simp [finC, rX]
def Rwd (gr n h : Nat) (w : World) : Prop := w.heap[gr]? = some (.cells (finC n h).toArray 85 (0, 0))
theorem run_fin (gr n h : Nat) (cs : Array Value) (w : World) (hr : w.heap[gr]? = some (.cells cs 85 (0, 0))) (hz : cs.size = 70) : (storeCells ⟨gr, 0, none⟩ (finC n h)).run Try.prog w = .ok () (w.setRow gr (finC n h).toArray) := by
  have hst := run_storeCells_at Try.prog gr 0 85 (finC n h) 0 _ w hr (by rw [finC_len, hz]; omega) (finC_one n h)
  simp only [Nat.add_zero, List.take_zero, List.nil_append, finC_len, Nat.zero_add] at hst
  rw [List.drop_of_length_le (by simp; omega), List.append_nil] at hst
  exact hst
set_option maxRecDepth 100000 in
theorem fin_any (gr n h : Nat) (cs : Array Value) (w : World) (hr : w.heap[gr]? = some (.cells cs 85 (0, 0))) (hz : cs.size = 70) :
    Calls Try.prog 52 #[.pointer (some ⟨gr, 0, none⟩), .int .i64 (n : Int), .int .i64 (h : Int)] w fun e w' => e = .returned (.tuple #[]) ∧ Rwd gr n h w' ∧ w'.os = w.os ∧ w'.tape = w.tape ∧ w'.output = w.output ∧ w'.heap.size = w.heap.size ∧ ∀ j, j ≠ gr → w'.heap[j]? = w.heap[j]? := by
  have r := run_fin gr n h cs w hr hz
  obtain ⟨W2, hW2⟩ : ∃ W2, w.setRow gr (finC n h).toArray = W2 := ⟨_, rfl⟩
  have H : Hid (Rwd gr n h W2 ∧ W2.os = w.os ∧ W2.tape = w.tape ∧ W2.output = w.output ∧ W2.heap.size = w.heap.size ∧ ∀ j, j ≠ gr → W2.heap[j]? = w.heap[j]?) := by
    rw [← hW2]
    exact ⟨setRow_heap _ _ _ _ _ _ hr, rfl, rfl, rfl, by simp, fun j hj => setRow_other _ _ _ _ hj⟩
  rw [hW2] at r
  rw [← finC_eq] at r
  clear hr hz hW2
  go_enter Try.func52, Try.ntmps52
  go_wp2
  go_returns
  exact ⟨rfl, H.out⟩
/-- Where the first of some hits overlaps the one ahead of it, or what is not free. -/
def ovP (f : Int) (m : Nat) (H : List (Int × Int)) : Int × Bool :=
  if 0 < H.length ∧ (H.getD 0 (0, 0)).1 < f then ((H.getD 0 (0, 0)).1, true) else if 0 < ov H (m : Int) then ((H.getD (ov H (m : Int)).toNat (0, 0)).1, true) else (0, false)
theorem ovR_rng (H : List (Int × Int)) (d : Int) : ∀ n i, 0 < i → ovR H d n i = -1 ∨ (0 < ovR H d n i ∧ ovR H d n i < ((i + n : Nat) : Int))
  | 0, i, _ => .inl rfl
  | n + 1, i, h => by
    rw [ovR]
    split
    · exact .inr ⟨by omega, by omega⟩
    · rcases ovR_rng H d n (i + 1) (by omega) with h1 | ⟨h1, h2⟩
      · exact .inl h1
      · exact .inr ⟨h1, by omega⟩
theorem ov_rng (H : List (Int × Int)) (d : Int) : ov H d = -1 ∨ (0 < ov H d ∧ ov H d < (H.length : Int)) := by
  unfold ov
  rcases ovR_rng H d (H.length - 1) 1 (by omega) with h1 | ⟨h1, h2⟩
  · exact .inl h1
  · refine .inr ⟨h1, ?_⟩
    by_cases h : H.length = 0
    · rw [h] at h1 ⊢
      simp [ovR] at h1
    · omega
theorem sg4 (a b c d tv : Value) (f : Int) (K : List Nat) (dn : Bool) : (a :: b :: c :: d :: rX tv f K dn).toArray[4]? = some tv := by simp [rX]
theorem sg5 (a b c d tv : Value) (f : Int) (K : List Nat) (dn : Bool) : (a :: b :: c :: d :: rX tv f K dn).toArray[5]? = some (.int .i64 f) := by simp [rX]
/-- A rewriter that goes on. -/
def Rwt (gr gt s n h : Nat) (tv : Value) (f : Int) (K : List Nat) (w : World) : Prop := Scg (rX tv f K false) 85 gr gt s n h w
set_option maxRecDepth 100000 in
set_option maxHeartbeats 1600000 in
theorem ovl_any (gr gt s n h : Nat) (tv : Value) (f : Int) (K : List Nat) (t : Tbl) (hwd : t.width ≤ 64) (H : List (Int × Int)) (hr : Rg H) (hv : Value) (w : World) (hw : Rwt gr gt s n h tv f K w) (ht : Tab gt t w) (hH : Hl hv H w) :
    Calls Try.prog 64 #[.pointer (some ⟨gr, 0, none⟩), hv] w fun e w' => e = .returned (.tuple #[.int .i64 (ovP f t.width H).1, .bool (ovP f t.width H).2]) ∧ Below w.heap.size w w' := by
  have CO : Hid (∀ W, Below w.heap.size w W → Calls Try.prog 9 #[hv, .int .i64 (t.width : Int)] W fun e w' => e = .returned (.int .i64 (ov H (t.width : Int))) ∧ Below W.heap.size W w') := fun W hb => overlap_any H hr (t.width : Int) (by unfold I64; omega) hv W (hH.below hb)
  have hov := ov_rng H (t.width : Int)
  obtain ⟨o, c, rfl, hl, ho⟩ := hH.form
  have c0 : w.cell? ⟨gr, 0, none⟩ = some (.pointer (some ⟨gt, 0, none⟩)) := (cell_of_row w gr 0 _ _ _ hw).trans (sg0 _ _ _ _ _)
  have c5 : w.cell? ⟨gr, 5, none⟩ = some (.int .i64 f) := (cell_of_row w gr 5 _ _ _ hw).trans (sg5 _ _ _ _ _ _ _ _)
  obtain ⟨vl, vd, vf, vb, vr, vv, q0, -⟩ := ht
  have ct : w.cell? ⟨gt, 0, none⟩ = some (.int .i64 (t.width : Int)) := (cell_of_row w gt 0 _ _ _ q0).trans rfl
  have gz : gr < w.heap.size := (Array.getElem?_eq_some_iff.1 hw).1
  have gtz : gt < w.heap.size := (Array.getElem?_eq_some_iff.1 q0).1
  have HO : Hid _ := ho
  have HH : Hid (Hl (.slice o H.length c) H w) := hH
  clear hw q0 ho hH
  generalize t.width = m at *
  unfold ovP
  by_cases h0 : 0 < H.length
  · obtain ⟨b, off, rfl, hb, hc⟩ := HO.out h0
    have h0' : (0 : Int) < (H.length : Int) := by omega
    have d0 := (hc 0 h0).1
    rw [Nat.zero_mul, Nat.add_zero] at d0
    have hx := hr
    generalize hx0 : (H.getD 0 (0, 0)).1 = x0 at *
    by_cases hf : x0 < f
    · rw [if_pos ⟨h0, hf⟩]
      clear hc HO HH CO hov hx
      go_enter Try.func64, Try.ntmps64
      go_wp2_with fail
      go_quiet (fail)
      go_wp2
      go_ret2
      exact ⟨rfl, Below.drewN' (Below.refl _ _) _⟩
    · rw [if_neg (fun h => hf h.2)]
      by_cases h1 : 0 < ov H (m : Int)
      · rw [if_pos h1]
        have h2 : ov H (m : Int) < (H.length : Int) := by omega
        obtain ⟨i, hi⟩ : ∃ i : Nat, ov H (m : Int) = (i : Int) := ⟨(ov H (m : Int)).toNat, by omega⟩
        rw [hi, Int.toNat_natCast]
        rw [hi] at h1 h2 CO
        have di := (hc i (by omega)).1
        have HD : Hid (w.cell? ⟨b, off + i * 2, none⟩ = some (.int .i64 (H.getD i (0, 0)).1)) := di
        clear hc HO HH hov hx di
        go_enter Try.func64, Try.ntmps64
        go_wp2_with fail
        go_quiet (fail)
        go_wp2_with fail
        refine Calls.mono (CO.out _ (Below.drewN' (Below.refl _ _) _)) ?_
        rintro e W ⟨rfl, hbW⟩
        have hbb : Below w.heap.size w W := (Below.drewN' (Below.refl _ w) _).trans hbW
        have di : W.cell? ⟨b, off + i * 2, none⟩ = some (.int .i64 (H.getD i (0, 0)).1) := (World.cell?_of_block (w := w) (hbb.block b hb)).trans HD.out
        have HB : Hid _ := hbb
        clear hbW hbb
        go_wp2
        go_ret2
        exact ⟨rfl, HB.out⟩
      · rw [if_neg h1]
        have he : ov H (m : Int) = -1 := by omega
        rw [he] at CO
        clear hc HO HH hov hx
        go_enter Try.func64, Try.ntmps64
        go_wp2_with fail
        go_quiet (fail)
        go_wp2_with fail
        refine Calls.mono (CO.out _ (Below.drewN' (Below.refl _ _) _)) ?_
        rintro e W ⟨rfl, hbW⟩
        have HB : Hid (Below w.heap.size w W) := (Below.drewN' (Below.refl _ w) _).trans hbW
        clear hbW
        go_wp2
        go_ret2
        exact ⟨rfl, HB.out⟩
  · rw [if_neg (fun h => h0 h.1)]
    have h0' : ¬ ((0 : Int) < (H.length : Int)) := by omega
    have he : ov H (m : Int) = -1 := by omega
    rw [he] at CO ⊢
    clear HO HH hov
    go_enter Try.func64, Try.ntmps64
    go_wp2_with fail
    go_quiet (fail)
    go_wp2_with fail
    refine Calls.mono (CO.out _ (Below.drewN' (Below.refl _ _) _)) ?_
    rintro e W ⟨rfl, hbW⟩
    have HB : Hid (Below w.heap.size w W) := (Below.drewN' (Below.refl _ w) _).trans hbW
    clear hbW
    go_wp2
    go_ret2
    exact ⟨rfl, HB.out⟩
end Go.Proofs.Ytceaklefdahfkaa
