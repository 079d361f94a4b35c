import Derived.Test.YtkppejaigodgiaaDoorArgs
namespace Go.Proofs.YtkppejaigodgiaaDoor
open Go.RowKit
theorem clone_tb (g : Nat) (m : List Nat) (w : World) (hT : Took roundN startN m g w) : Calls Tryd.prog 13 #[.pointer (some ⟨g, 0, none⟩)] w fun e w' => e = .returned (.pointer (some ⟨w.heap.size, 0, none⟩)) ∧ Took roundN startN m w.heap.size w' ∧ Below w.heap.size w w' := by
  obtain ⟨st, rest, hst, hrs, hsw, hrb, hh, h1, h2⟩ := hT
  exact (clone_any g st rest m.length hst hrs w hh).mono fun e w' ⟨he, hr, hb⟩ => ⟨he, ⟨st, rest, hst, hrs, hsw, hrb, hr, h1, h2⟩, hb⟩
theorem reset_tb (g : Nat) (m : List Nat) (w : World) (hT : Took roundN startN m g w) : Calls Tryd.prog 9 #[.pointer (some ⟨g, 0, none⟩)] w fun e w' => e = .returned (.tuple #[]) ∧ Took roundN startN [] g w' ∧ Touch g w w' := by
  obtain ⟨st, rest, hst, hrs, hsw, hrb, hh, h1, h2⟩ := hT
  exact (reset_any g st rest m.length hst hrs w hh).mono fun e w' ⟨he, hr, hb⟩ => ⟨he, took_zero _ _ _ _ hr, hb⟩
theorem len_tb (g : Nat) (m : List Nat) (w : World) (hT : Took roundN startN m g w) : Calls Tryd.prog 12 #[.pointer (some ⟨g, 0, none⟩)] w fun e w' => e = .returned (.int .i64 (m.length : Int)) ∧ w' = w := by
  obtain ⟨st, rest, hst, hrs, hsw, hrb, hh, h1, h2⟩ := hT
  exact len_any g st rest m.length hst hrs w hh
/-- Bytes that lie at block B or above. -/
def BylF (B : Nat) (v : Value) (d : List Nat) (w : World) : Prop := Byl v d w ∧ ∀ k, v.ownBlock = some k → B ≤ k
theorem BylF.keep {B : Nat} {v : Value} {d : List Nat} {w w' : World} (h : BylF B v d w) (hs : w.heap.size ≤ w'.heap.size) (hb : ∀ j, B ≤ j → j < w.heap.size → w'.heap[j]? = w.heap[j]?) : BylF B v d w' := by
  obtain ⟨h | ⟨b, off, cap, rfl, h2, h3, h5, h6⟩, hB⟩ := h
  · exact ⟨.inl h, hB⟩
  · exact ⟨.inr ⟨b, off, cap, rfl, h2, h3, by omega, fun j hj => (World.cell?_of_block (w := w) (hb b (hB b rfl) h5)).trans (h6 j hj)⟩, hB⟩
theorem BylF.touch {B g : Nat} {v : Value} {d : List Nat} {w w' : World} (h : BylF B v d w) (ht : Touch g w w') (hg : g < B) : BylF B v d w' := h.keep ht.size (fun j h1 h2 => ht.block j h2 (by omega))
theorem BylF.below {B : Nat} {v : Value} {d : List Nat} {w w' : World} (h : BylF B v d w) (hb : Below w.heap.size w w') : BylF B v d w' := h.keep hb.size (fun j _ h2 => hb.block j h2)
theorem bylF_own {w : World} {base n : Nat} {v : Value} {l : List Nat} (h : w.ownsRow base 5 1 v n (bs l).toList) : BylF base v l w := ⟨(byl_own h).1, fun k hk => (h.lt k hk).1⟩
/-- A slice cut, kept shut. -/
def slR (v : Value) (lo hi mx : Option Value) : Sem Value := Instr.slice 26 v lo hi mx
theorem toSl (v : Value) (lo hi mx : Option Value) : Instr.slice 26 v lo hi mx = slR v lo hi mx := rfl
theorem elem26 : Tryd.prog.elem 26 = 5 := by kernel_rfl
theorem u26 : Tryd.prog.underlying 26 = some (.slice (Tryd.prog.elem 26)) := by rw [elem26]; exact Tryd.underlying26
theorem run_cut_h (w : World) (o : Option Addr) (n c h : Nat) (hh : h ≤ c) : (slR (.slice o n c) none (some (.int .i64 (h : Int))) none).run Tryd.prog w = .ok (sliced o 0 h c 1) w := by
  have := run_slice_h (P := Tryd.prog) w 26 o n c u26 .i64 (h : Int) (by omega) (by omega)
  unfold slR
  rw [this, elem26, run_size_bs w size5]
  simp [Result.andThen]
theorem run_cut_l (w : World) (o : Option Addr) (n c h : Nat) (hh : h ≤ n) : (slR (.slice o n c) (some (.int .i64 (h : Int))) none none).run Tryd.prog w = .ok (sliced o h n c 1) w := by
  have := run_slice_l (P := Tryd.prog) w 26 o n c u26 .i64 (h : Int) (by omega) (by omega)
  unfold slR
  rw [this, elem26, run_size_bs w size5]
  simp [Result.andThen]
theorem byl_cut_h {w : World} {o : Option Addr} {b : List Nat} {c : Nat} (hb : Byl (.slice o b.length c) b w) (h : Nat) (hh : h ≤ b.length) : Byl (sliced o 0 h c 1) (b.take h) w := by
  have hl : (b.take h).length = h := by rw [List.length_take]; omega
  rcases hb with ⟨h1, rfl⟩ | ⟨bk, off, cap, h1, h2, h3, h4, h5⟩
  · simp only [Value.slice.injEq] at h1
    obtain ⟨rfl, _, rfl⟩ := h1
    have : h = 0 := by simpa using hh
    subst this
    exact .inl ⟨rfl, rfl⟩
  · simp only [Value.slice.injEq, true_and] at h1
    obtain ⟨rfl, rfl⟩ := h1
    refine .inr ⟨bk, off, c, ?_, by omega, h3, h4, fun j hj => ?_⟩
    · rw [hl]
      simp [sliced, Addr.add]
    · rw [hl] at hj
      rw [h5 j (by omega)]
      simp [List.getD, hj, show j < b.length by omega]
theorem byl_cut_l {w : World} {o : Option Addr} {b : List Nat} {c : Nat} (hb : Byl (.slice o b.length c) b w) (h : Nat) (hh : h ≤ b.length) : Byl (sliced o h b.length c 1) (b.drop h) w := by
  have hl : (b.drop h).length = b.length - h := List.length_drop
  rcases hb with ⟨h1, rfl⟩ | ⟨bk, off, cap, h1, h2, h3, h4, h5⟩
  · simp only [Value.slice.injEq] at h1
    obtain ⟨rfl, _, rfl⟩ := h1
    have : h = 0 := by simpa using hh
    subst this
    exact .inl ⟨rfl, rfl⟩
  · simp only [Value.slice.injEq, true_and] at h1
    obtain ⟨rfl, rfl⟩ := h1
    by_cases hc : c = h
    · refine .inr ⟨bk, off, c - h, ?_, by omega, by omega, h4, fun j hj => by omega⟩
      rw [hl]
      simp [sliced, hc]
    · refine .inr ⟨bk, off + h, c - h, ?_, by omega, by omega, h4, fun j hj => ?_⟩
      · rw [hl]
        simp [sliced, hc, Addr.add]
      · rw [Nat.add_assoc, h5 (h + j) (by omega)]
        simp [List.getD]
attribute [local go_sem ↓] to28s to28l toApp toSl
set_option maxRecDepth 100000 in
set_option maxHeartbeats 3200000 in
theorem apart_any (a b c : List Nat) (hab : Byt a) (hbb : Byt b) (hcb : Byt c) (hal : a.length ≤ 1048576) (hbl : b.length ≤ 1048576) (hcl : c.length ≤ 1048576) (av bv cv : Value) (w : World) (ht : Tb w) (ha : Byl av a w) (hb : Byl bv b w) (hc : Byl cv c w) :
    Calls Tryd.prog 5 #[av, bv, cv] w fun e w' => e = .returned (.bool true) ∧ Below w.heap.size w w' := by
  have hsw := ht.sz
  obtain ⟨bo, bc, rfl⟩ := hb.shape
  go_enter Tryd.func5, Tryd.ntmps5
  go_wp2_with fail
  refine (new_any _).mono ?_
  rintro e w0 ⟨rfl, rfl⟩
  have bel1 : Below w.heap.size w (w.alloc (.cells hz 43)) := (Below.refl _ w).alloc (Nat.le_refl _) _
  have tk1 : Took roundN startN [] w.heap.size (w.alloc (.cells hz 43)) := took_zero _ _ _ _ (heap_alloc_new _ _)
  have hz1 : (w.alloc (.cells hz 43)).heap.size = w.heap.size + 1 := by simp
  revert bel1 tk1 hz1
  generalize w.alloc (.cells hz 43) = w1
  intro bel1 tk1 hz1
  have C1 : Hid (Calls Tryd.prog 10 #[.pointer (some ⟨w.heap.size, 0, none⟩), av] w1 fun e w' => e = .returned (.int .i64 0) ∧ Took roundN startN ([] ++ a) w.heap.size w' ∧ Touch w.heap.size w1 w') := write_tb w.heap.size [] a hab (by simp; omega) av w1 (ha.bts' _ (Nat.le_refl _) bel1) (by omega) (ht.below bel1 hsw) tk1
  clear tk1
  have HZ1 : Hid (w1.heap.size = w.heap.size + 1) := hz1
  clear hz1
  go_wp2_with fail
  refine C1.out.mono ?_
  rintro e w2 ⟨rfl, t2, c2⟩
  rw [List.nil_append] at t2
  have hz1 := HZ1.out
  have z2 := c2.size
  have bel2 : Below w.heap.size w w2 := below_touch bel1 c2 (Nat.le_refl _) (by omega)
  have T2 : Hid (Took roundN startN a w.heap.size w2) := t2
  have HZ2 : Hid (w.heap.size < w2.heap.size) := by show _ < _; omega
  clear t2 c2 z2 bel1 hz1 HZ1 C1
  go_wp2_with fail
  refine (clone_tb w.heap.size a w2 T2.out).mono ?_
  rintro e w3 ⟨rfl, t3, b3⟩
  have hz2 := HZ2.out
  have bel3 : Below w.heap.size w w3 := bel2.trans (b3.mono (by omega))
  have T13 : Hid (Took roundN startN a w.heap.size w3) := T2.out.keep (b3.block _ hz2)
  have T23 : Hid (Took roundN startN a w2.heap.size w3) := t3
  have z3 : w2.heap.size < w3.heap.size := t3.lt
  clear b3 t3 bel2 T2 HZ2
  revert hz2 T23 z3
  generalize w2.heap.size = G
  intro hz2 T23 z3
  obtain ⟨v4, w4, hr4, ho4, hg4⟩ := run_append_byl w3 w3.heap.size 0 26 (.slice none 0 0) av [] a (World.ownsRow_nil _ _ _ _) (ha.keep bel3.size bel3.block) (by omega) (Nat.le_refl _)
  rw [List.nil_append, Nat.zero_add] at ho4
  have b4 : Below w3.heap.size w3 w4 := below_grown (Below.refl _ _) hg4 (Nat.le_refl _) (fun g hg => by cases hg)
  have bel4 : Below w.heap.size w w4 := bel3.trans (b4.mono (by omega))
  have z4 := b4.size
  obtain ⟨v5, w5, hr5, ho5, hg5⟩ := run_append_byl w4 w3.heap.size a.length 26 v4 _ a b ho4 (hb.keep bel4.size bel4.block) (by omega) (by omega)
  have b5 : Below w3.heap.size w3 w5 := below_grown b4 hg5 (by omega) (fun g hg => (ho4.lt g hg).1)
  have z5 := b5.size
  have bel5 : Below w.heap.size w w5 := bel3.trans (b5.mono (by omega))
  have y5 : Hid (BylF w3.heap.size v5 (a ++ b) w5) := bylF_own ho5
  obtain ⟨v6, w6, hr6, ho6, hg6⟩ := run_append_byl w5 w5.heap.size 0 26 (.slice none 0 0) av [] a (World.ownsRow_nil _ _ _ _) (ha.keep bel5.size bel5.block) (by omega) (Nat.le_refl _)
  rw [List.nil_append, Nat.zero_add] at ho6
  have b6 : Below w5.heap.size w5 w6 := below_grown (Below.refl _ _) hg6 (Nat.le_refl _) (fun g hg => by cases hg)
  have z6 := b6.size
  have bel6 : Below w.heap.size w w6 := bel5.trans (b6.mono (by omega))
  obtain ⟨v7, w7, hr7, ho7, hg7⟩ := run_append_byl w6 w5.heap.size a.length 26 v6 _ a c ho6 (hc.keep bel6.size bel6.block) (by omega) (by omega)
  have b7 : Below w5.heap.size w5 w7 := below_grown b6 hg7 (by omega) (fun g hg => (ho6.lt g hg).1)
  have z7 := b7.size
  have bel7 : Below w.heap.size w w7 := bel5.trans (b7.mono (by omega))
  have y7 : Hid (BylF w5.heap.size v7 (a ++ c) w7) := bylF_own ho7
  have y57 : Hid (BylF w3.heap.size v5 (a ++ b) w7) := y5.out.below b7
  have T17 : Hid (Took roundN startN a w.heap.size w7) := T13.out.keep ((b7.block _ (by omega)).trans (b5.block _ (by omega)))
  have T27 : Hid (Took roundN startN a G w7) := T23.out.keep ((b7.block _ (by omega)).trans (b5.block _ (by omega)))
  have hz7 : G < w7.heap.size := by omega
  clear ho4 hg4 b4 bel4 z4 ho5 hg5 b5 bel5 y5 ho6 hg6 b6 bel6 ho7 hg7 b7 T13 T23 bel3
  go_wp2_with fail
  obtain ⟨hf, hhf⟩ : ∃ x, x = b.length / 2 := ⟨_, rfl⟩
  have e2 : ((b.length : Int) / 2) = (hf : Int) := by omega
  have hfl : hf ≤ b.length := by omega
  have hbc : b.length ≤ bc := by
    rcases hb with ⟨h1, h2⟩ | ⟨_, _, _, h1, h2, _⟩
    · rw [h2]; simp
    · simp only [Value.slice.injEq, true_and] at h1; omega
  rw [e2]
  clear e2 hhf
  have rc1 := fun (w : World) => run_cut_h w bo b.length bc hf (by omega)
  have rc2 := fun (w : World) => run_cut_l w bo b.length bc hf hfl
  have y1 := byl_cut_h hb hf hfl
  have y2 := byl_cut_l hb hf hfl
  revert rc1 rc2 y1 y2
  generalize sliced bo 0 hf bc 1 = q1
  generalize sliced bo hf b.length bc 1 = q2
  intro rc1 rc2 y1 y2
  have tb7 : Tb w7 := ht.below bel7 hsw
  have C8 := write_tb w.heap.size a (b.take hf) (fun x hx => hbb x (List.mem_of_mem_take hx)) (by have := List.length_take_le hf b; omega) q1 w7 (y1.bts' _ (Nat.le_refl _) bel7) (by omega) tb7 T17.out
  have HC8 : Hid (Calls Tryd.prog 10 #[.pointer (some ⟨w.heap.size, 0, none⟩), q1] w7 fun e w' => e = .returned (.int .i64 0) ∧ Took roundN startN (a ++ b.take hf) w.heap.size w' ∧ Touch w.heap.size w7 w') := C8
  clear C8 T17
  rw [rc1]
  go_wp2_with fail
  refine HC8.out.mono ?_
  rintro e w8 ⟨rfl, t8, c8⟩
  have z8 := c8.size
  have bel8 : Below w.heap.size w w8 := below_touch bel7 c8 (Nat.le_refl _) (by omega)
  have tb8 : Tb w8 := ht.below bel8 hsw
  have T18 : Hid (Took roundN startN (a ++ b.take hf) w.heap.size w8) := t8
  have T28 : Hid (Took roundN startN a G w8) := T27.out.keep (c8.block _ (by omega) (by omega))
  have y58 : Hid (BylF w3.heap.size v5 (a ++ b) w8) := y57.out.touch c8 (by omega)
  have y78 : Hid (BylF w5.heap.size v7 (a ++ c) w8) := y7.out.touch c8 (by omega)
  have hz8 : G < w8.heap.size := by omega
  clear t8 c8 HC8 y57 y7 T27 tb7 bel7 z8 hz7 rc1 hr4 hr5 hr6 hr7
  have C9 := write_tb G a c hcb (by omega) cv w8 (hc.bts' _ (by omega) bel8) (by omega) tb8 T28.out
  have HC9 : Hid (Calls Tryd.prog 10 #[.pointer (some ⟨G, 0, none⟩), cv] w8 fun e w' => e = .returned (.int .i64 0) ∧ Took roundN startN (a ++ c) G w' ∧ Touch G w8 w') := C9
  clear C9 T28
  go_wp2_with fail
  refine HC9.out.mono ?_
  rintro e w9 ⟨rfl, t9, c9⟩
  have z9 := c9.size
  have bel9 : Below w.heap.size w w9 := below_touch bel8 c9 (by omega) (by omega)
  have tb9 : Tb w9 := ht.below bel9 hsw
  have T29 : Hid (Took roundN startN (a ++ c) G w9) := t9
  have T19 : Hid (Took roundN startN (a ++ b.take hf) w.heap.size w9) := T18.out.keep (c9.block _ (by omega) (by omega))
  have y59 : Hid (BylF w3.heap.size v5 (a ++ b) w9) := y58.out.touch c9 (by omega)
  have y79 : Hid (BylF w5.heap.size v7 (a ++ c) w9) := y78.out.touch c9 (by omega)
  have hz9 : G < w9.heap.size := by omega
  clear t9 c9 HC9 y58 y78 T18 tb8 bel8 z9 hz8
  have C10 := write_tb w.heap.size (a ++ b.take hf) (b.drop hf) (fun x hx => hbb x (List.mem_of_mem_drop hx)) (by rw [List.length_append, List.length_take, List.length_drop]; omega) q2 w9 (y2.bts' _ (Nat.le_refl _) bel9) (by omega) tb9 T19.out
  rw [List.append_assoc, List.take_append_drop] at C10
  have HC10 : Hid (Calls Tryd.prog 10 #[.pointer (some ⟨w.heap.size, 0, none⟩), q2] w9 fun e w' => e = .returned (.int .i64 0) ∧ Took roundN startN (a ++ b) w.heap.size w' ∧ Touch w.heap.size w9 w') := C10
  clear C10 T19
  go_wp2_with fail
  refine HC10.out.mono ?_
  rintro e w10 ⟨rfl, t10, c10⟩
  have z10 := c10.size
  have bel10 : Below w.heap.size w w10 := below_touch bel9 c10 (Nat.le_refl _) (by omega)
  have tb10 : Tb w10 := ht.below bel10 hsw
  have T1 : Hid (Took roundN startN (a ++ b) w.heap.size w10) := t10
  have T2 : Hid (Took roundN startN (a ++ c) G w10) := T29.out.keep (c10.block _ (by omega) (by omega))
  have y5 : Hid (BylF w3.heap.size v5 (a ++ b) w10) := y59.out.touch c10 (by omega)
  have y7 : Hid (BylF w5.heap.size v7 (a ++ c) w10) := y79.out.touch c10 (by omega)
  have hz10 : G < w10.heap.size := by omega
  clear t10 c10 HC10 y59 y79 T29 tb9 bel9 z10 hz9 rc2 y1 y2
  have abb : Byt (a ++ b) := fun x hx => by
    rcases List.mem_append.1 hx with h | h
    · exact hab x h
    · exact hbb x h
  have acb : Byt (a ++ c) := fun x hx => by
    rcases List.mem_append.1 hx with h | h
    · exact hab x h
    · exact hcb x h
  have abl : (a ++ b).length ≤ 1152921504606846976 := by rw [List.length_append]; omega
  have acl : (a ++ c).length ≤ 1152921504606846976 := by rw [List.length_append]; omega
  obtain ⟨ab, habd⟩ : ∃ x, x = a ++ b := ⟨_, rfl⟩
  obtain ⟨ac, hacd⟩ : ∃ x, x = a ++ c := ⟨_, rfl⟩
  rw [← habd] at abb abl T1 y5
  rw [← hacd] at acb acl T2 y7
  clear habd hacd
  obtain ⟨s1, hs1⟩ : ∃ x, x = sha ab := ⟨_, rfl⟩
  obtain ⟨s2, hs2⟩ : ∃ x, x = sha ac := ⟨_, rfl⟩
  obtain ⟨s0, hs0⟩ : ∃ x, x = sha [] := ⟨_, rfl⟩
  have s1l : s1.length = 32 := by rw [hs1]; exact sha_len _
  have s2l : s2.length = 32 := by rw [hs2]; exact sha_len _
  have s0l : s0.length = 32 := by rw [hs0]; exact sha_len _
  have HS1 : Hid (s1 = sha ab) := hs1
  have HS2 : Hid (s2 = sha ac) := hs2
  have HS0 : Hid (s0 = sha []) := hs0
  clear hs1 hs2 hs0
  have eqs : ∀ (w : World) (l : List Nat), l.length = 32 → (Op.equalIn 10000 28 (.agg (bs l)) (.agg (bs l))).run Tryd.prog w = .ok true w := fun w l h => nz w l h
  go_wp2_with fail
  refine (sum_tb w.heap.size ab abl w10 tb10 T1.out).mono ?_
  rw [← HS1.out]
  rintro e w11 ⟨rfl, b11⟩
  have z11 := b11.size
  have bel11 : Below w.heap.size w w11 := bel10.trans (b11.mono (by omega))
  have tb11 : Tb w11 := ht.below bel11 hsw
  have T1a : Hid (Took roundN startN ab w.heap.size w11) := T1.out.keep (b11.block _ (by omega))
  have T2a : Hid (Took roundN startN ac G w11) := T2.out.keep (b11.block _ (by omega))
  have y5a : Hid (BylF w3.heap.size v5 ab w11) := y5.out.below b11
  have y7a : Hid (BylF w5.heap.size v7 ac w11) := y7.out.below b11
  clear b11 T1 T2 y5 y7 bel10 tb10
  go_wp2_with fail
  refine (of_tb ab v5 abl abb w11 tb11 y5a.out.1).mono ?_
  rw [← HS1.out]
  rintro e w12 ⟨rfl, b12⟩
  have z12 := b12.size
  have bel12 : Below w.heap.size w w12 := bel11.trans (b12.mono (by omega))
  have tb12 : Tb w12 := ht.below bel12 hsw
  have T1b : Hid (Took roundN startN ab w.heap.size w12) := T1a.out.keep (b12.block _ (by omega))
  have T2b : Hid (Took roundN startN ac G w12) := T2a.out.keep (b12.block _ (by omega))
  have y5b : Hid (BylF w3.heap.size v5 ab w12) := y5a.out.below b12
  have y7b : Hid (BylF w5.heap.size v7 ac w12) := y7a.out.below b12
  clear b12 T1a T2a y5a y7a bel11 tb11
  have q12 := eqs w12 s1 s1l
  go_wp2_with fail
  refine (sum_tb G ac acl w12 tb12 T2b.out).mono ?_
  rw [← HS2.out]
  rintro e w13 ⟨rfl, b13⟩
  have z13 := b13.size
  have bel13 : Below w.heap.size w w13 := bel12.trans (b13.mono (by omega))
  have tb13 : Tb w13 := ht.below bel13 hsw
  have T1c : Hid (Took roundN startN ab w.heap.size w13) := T1b.out.keep (b13.block _ (by omega))
  have T2c : Hid (Took roundN startN ac G w13) := T2b.out.keep (b13.block _ (by omega))
  have y5c : Hid (BylF w3.heap.size v5 ab w13) := y5b.out.below b13
  have y7c : Hid (BylF w5.heap.size v7 ac w13) := y7b.out.below b13
  clear b13 T1b T2b y5b y7b bel12 tb12 q12
  go_wp2_with fail
  refine (of_tb ac v7 acl acb w13 tb13 y7c.out.1).mono ?_
  rw [← HS2.out]
  rintro e w14 ⟨rfl, b14⟩
  have z14 := b14.size
  have bel14 : Below w.heap.size w w14 := bel13.trans (b14.mono (by omega))
  have tb14 : Tb w14 := ht.below bel14 hsw
  have T1d : Hid (Took roundN startN ab w.heap.size w14) := T1c.out.keep (b14.block _ (by omega))
  have T2d : Hid (Took roundN startN ac G w14) := T2c.out.keep (b14.block _ (by omega))
  have y5d : Hid (BylF w3.heap.size v5 ab w14) := y5c.out.below b14
  clear b14 T1c T2c y5c y7c bel13 tb13
  have q14 := eqs w14 s2 s2l
  go_wp2_with fail
  refine (reset_tb G ac w14 T2d.out).mono ?_
  rintro e w15 ⟨rfl, t15, c15⟩
  have z15 := c15.size
  have bel15 : Below w.heap.size w w15 := below_touch bel14 c15 (by omega) (by omega)
  have tb15 : Tb w15 := ht.below bel15 hsw
  have T1e : Hid (Took roundN startN ab w.heap.size w15) := T1d.out.keep (c15.block _ (by omega) (by omega))
  have T2e : Hid (Took roundN startN [] G w15) := t15
  have y5e : Hid (BylF w3.heap.size v5 ab w15) := y5d.out.touch c15 (by omega)
  clear t15 c15 T1d T2d y5d bel14 tb14 q14
  go_wp2_with fail
  refine (sum_tb w.heap.size ab abl w15 tb15 T1e.out).mono ?_
  rw [← HS1.out]
  rintro e w16 ⟨rfl, b16⟩
  have z16 := b16.size
  have bel16 : Below w.heap.size w w16 := bel15.trans (b16.mono (by omega))
  have tb16 : Tb w16 := ht.below bel16 hsw
  have T1f : Hid (Took roundN startN ab w.heap.size w16) := T1e.out.keep (b16.block _ (by omega))
  have T2f : Hid (Took roundN startN [] G w16) := T2e.out.keep (b16.block _ (by omega))
  have y5f : Hid (BylF w3.heap.size v5 ab w16) := y5e.out.below b16
  clear b16 T1e T2e y5e bel15 tb15
  go_wp2_with fail
  refine (of_tb ab v5 abl abb w16 tb16 y5f.out.1).mono ?_
  rw [← HS1.out]
  rintro e w17 ⟨rfl, b17⟩
  have z17 := b17.size
  have bel17 : Below w.heap.size w w17 := bel16.trans (b17.mono (by omega))
  have tb17 : Tb w17 := ht.below bel17 hsw
  have T1g : Hid (Took roundN startN ab w.heap.size w17) := T1f.out.keep (b17.block _ (by omega))
  have T2g : Hid (Took roundN startN [] G w17) := T2f.out.keep (b17.block _ (by omega))
  have hsh := y5f.out.1.shape
  clear b17 T1f T2f y5f bel16 tb16
  have q17 := eqs w17 s1 s1l
  go_wp2_with fail
  refine (sum_tb G [] (by decide) w17 tb17 T2g.out).mono ?_
  rw [← HS0.out]
  rintro e w18 ⟨rfl, b18⟩
  have z18 := b18.size
  have bel18 : Below w.heap.size w w18 := bel17.trans (b18.mono (by omega))
  have tb18 : Tb w18 := ht.below bel18 hsw
  have T1h : Hid (Took roundN startN ab w.heap.size w18) := T1g.out.keep (b18.block _ (by omega))
  clear b18 T1g T2g bel17 tb17 q17
  go_wp2_with fail
  refine (of_tb [] _ (by decide) (fun x hx => by cases hx) w18 tb18 (.inl ⟨rfl, rfl⟩)).mono ?_
  rw [← HS0.out]
  rintro e w19 ⟨rfl, b19⟩
  have z19 := b19.size
  have bel19 : Below w.heap.size w w19 := bel18.trans (b19.mono (by omega))
  have T1i : Hid (Took roundN startN ab w.heap.size w19) := T1h.out.keep (b19.block _ (by omega))
  clear b19 T1h bel18 tb18
  have q19 := eqs w19 s0 s0l
  obtain ⟨o5, c5, rfl⟩ := hsh
  go_wp2_with fail
  refine (len_tb w.heap.size ab w19 T1i.out).mono ?_
  rintro e w20 ⟨rfl, rfl⟩
  go_wp2_with fail
  go_ret
  exact ⟨by simp, bel19⟩
end Go.Proofs.YtkppejaigodgiaaDoor
