/- SieveScans: cuts. -/
import Derived.Test.YtceaklefdahfkabSc4
namespace Go.Proofs.Ytceaklefdahfkab
open Go.RowKit
/-- The first and the rest of some bytes. -/
theorem cut2 (v : Value) (d : List Nat) (k : Nat) (hk : k ≤ d.length) (w : World) (h : Si .u8 v d w) : ∃ oh ch ot ct, (∀ W, (slB v none (some (.int .i64 (k : Int))) none).run Try.prog W = .ok (.slice oh k ch) W) ∧ Si .u8 (.slice oh k ch) (d.take k) w ∧
    (∀ W, (slB v (some (.int .i64 (k : Int))) none none).run Try.prog W = .ok (.slice ot (d.length - k) ct) W) ∧ Si .u8 (.slice ot (d.length - k) ct) (d.drop k) w := by
  rcases h with ⟨rfl, rfl⟩ | ⟨b, off, cap, rfl, h2, h3, h4, h5⟩
  · have : k = 0 := by simpa using hk
    subst this
    refine ⟨none, 0, none, 0, fun W => ?_, .inl ⟨rfl, rfl⟩, fun W => ?_, .inl ⟨rfl, rfl⟩⟩
    · have := run_slice_h (P := Try.prog) W 23 none 0 0 u27 .i64 ((0 : Nat) : Int) (by omega) (by omega)
      unfold slB
      rw [this, elem27, run_size1 W size5]
      rfl
    · have := run_slice_l (P := Try.prog) W 23 none 0 0 u27 .i64 ((0 : Nat) : Int) (by omega) (by omega)
      unfold slB
      rw [this, elem27, run_size1 W size5]
      rfl
  · refine ⟨some ⟨b, off, none⟩, cap, some ⟨b, if k < cap then off + k else off, none⟩, cap - k, fun W => run_cutH b off d.length cap k (by omega) W, ?_, fun W => ?_, ?_⟩
    · have hl : (d.take k).length = k := by rw [List.length_take]; omega
      refine .inr ⟨b, off, cap, by rw [hl], by omega, h3, h4, fun j hj => ?_⟩
      rw [hl] at hj
      rw [h5 j (by omega)]
      have : (d.take k).getD j 0 = d.getD j 0 := by rw [List.getD, List.getElem?_take, if_pos hj, ← List.getD]
      rw [this]
    · have := run_slice_l (P := Try.prog) W 23 (some ⟨b, off, none⟩) d.length cap u27 .i64 (k : Int) (by omega) (by omega)
      unfold slB
      rw [this, elem27, run_size1 W size5]
      simp only [Result.andThen, sliced, Int.toNat_natCast, Option.map_some, Nat.mul_one]
      by_cases hp : k < cap
      · rw [if_neg (by omega), Go.WideShapes.add_plain, if_pos hp]
      · rw [if_pos (by omega), if_neg hp]
    · have hl : (d.drop k).length = d.length - k := by rw [List.length_drop]
      refine .inr ⟨b, _, cap - k, by rw [hl], by omega, by omega, h4, fun j hj => ?_⟩
      rw [hl] at hj
      rw [if_pos (by omega), Nat.add_assoc, h5 (k + j) (by omega)]
      have : (d.drop k).getD j 0 = d.getD (k + j) 0 := by rw [List.getD, List.getElem?_drop, ← List.getD]
      rw [this]
/-- The pieces. -/
def ctk (x : Nat) (d : List Nat) : Nat := min (x % 40) d.length
def cutL (d : List Nat) (ls : List Nat) : Nat → List (List Nat) × List Nat
  | 0 => ([], d)
  | i + 1 => ((cutL d ls i).1 ++ [(cutL d ls i).2.take (ctk (ls.getD i 0) (cutL d ls i).2)], (cutL d ls i).2.drop (ctk (ls.getD i 0) (cutL d ls i).2))
theorem cutL_flat (d ls : List Nat) : ∀ i, (cutL d ls i).1.flatten ++ (cutL d ls i).2 = d
  | 0 => rfl
  | i + 1 => by
    rw [cutL]
    simp only [List.flatten_append, List.flatten_cons, List.flatten_nil, List.append_nil]
    rw [List.append_assoc, List.take_append_drop]
    exact cutL_flat d ls i
theorem cutL_len (d ls : List Nat) : ∀ i, (cutL d ls i).1.length = i
  | 0 => rfl
  | i + 1 => by rw [cutL]; simp [cutL_len d ls i]
theorem cutL_rest (d ls : List Nat) (i : Nat) : (cutL d ls i).2.length ≤ d.length := by
  have := congrArg List.length (cutL_flat d ls i)
  rw [List.length_append] at this
  omega
theorem info23 : (Try.prog.info? 23).map (fun i => (i.zero, i.size, i.bytes)) = some (some (.slice none 0 0), 1, 24) := by kernel_rfl
def apL (ty : Nat) (vs : Array Value) : Sem Value := Builtin.append_ #[62, 62] ty vs
theorem toApL (ty : Nat) (vs : Array Value) : Builtin.append_ #[62, 62] ty vs = apL ty vs := rfl
/-- A piece appended. -/
theorem run_apL (w : World) (base n : Nat) (v : Value) (vs : List Value) (o : Option Addr) (k c : Nat) (hown : w.ownsRow base 23 1 v n vs) (hb : n ≤ 1073741824) (hbase : base ≤ w.heap.size) :
    ∃ v' w', (apL 62 #[v, .slice (some ⟨w.heap.size, 0, none⟩) 1 1]).run Try.prog (w.alloc (.cells #[.slice o k c] 23)) = .ok v' w' ∧ w'.ownsRow base 23 1 v' (n + 1) (vs ++ [.slice o k c]) ∧ (w.alloc (.cells #[.slice o k c] 23)).grownBy w' v.ownBlock := by
  obtain ⟨i0, hi0, hz0, hz1, hz2⟩ := info_parts info23
  obtain ⟨v', w', hr, ho, hg, _, hat⟩ := run_append_own_at (P := Try.prog) (w.alloc (.cells #[.slice o k c] 23)) base 62 62 23 i0 _ 1 24 Try.underlying62 hi0 hz0 hz1 hz2 rfl (by omega) v n _ (hown.alloc _) ⟨w.heap.size, 0, none⟩ 1 1 [.slice o k c] rfl
    (World.news_of_block (cs := #[.slice o k c]) (t := 23) (fr := (0, 0)) (heap_alloc_new w _)) (fun u hu => by simp at hu; subst hu; rfl) (by unfold maxLen; omega) (by omega) (by simp; omega)
  exact ⟨v', w', hr, ho, hg⟩
/-- Slices, each some bytes. -/
def Pcs (vs : List Value) (P : List (List Nat)) (w : World) : Prop := vs.length = P.length ∧ ∀ j, j < P.length → ∃ o c, vs[j]? = some (.slice o (P.getD j []).length c) ∧ Si .u8 (.slice o (P.getD j []).length c) (P.getD j []) w
theorem Pcs.snoc {vs : List Value} {P : List (List Nat)} {w : World} (h : Pcs vs P w) (o : Option Addr) (c k : Nat) (x : List Nat) (hk : k = x.length) (hx : Si .u8 (.slice o k c) x w) : Pcs (vs ++ [.slice o k c]) (P ++ [x]) w := by
  subst hk
  refine ⟨by simp [h.1], fun j hj => ?_⟩
  rw [List.length_append, List.length_singleton] at hj
  by_cases hl : j < P.length
  · obtain ⟨o', c', q1, q2⟩ := h.2 j hl
    have e : (P ++ [x]).getD j [] = P.getD j [] := getS_snoc P x j hl
    rw [e]
    exact ⟨o', c', by rw [List.getElem?_append_left (by rw [h.1]; exact hl)]; exact q1, q2⟩
  · have hj2 : j = P.length := by omega
    subst hj2
    rw [getS_last]
    exact ⟨o, c, by rw [List.getElem?_append_right (by rw [h.1]; exact Nat.le_refl _), h.1, Nat.sub_self]; rfl, hx⟩
theorem own_form {w : World} {base e n : Nat} {v : Value} {xs : List Value} (h : w.ownsRow base e 1 v n xs) : ∃ o c, v = .slice o n c := by
  obtain ⟨_, ⟨h1, h2⟩ | ⟨g, cap, cur, h1, _⟩⟩ := h
  · subst h2; exact ⟨none, 0, h1⟩
  · exact ⟨_, _, h1⟩
attribute [local go_sem ↓] toSlB toApL
set_option maxRecDepth 100000 in
set_option maxHeartbeats 1600000 in
theorem cuts_any (d ls : List Nat) (hd : d.length ≤ 1073741824) (hl : ls.length ≤ 1073741824) (hlb : Byt ls) (v u : Value) (wa w : World) (hbw : Below wa.heap.size wa w) (hv : Si .u8 v d wa) (hu0 : Si .u8 u ls wa) :
    Calls Try.prog 28 #[v, u] w fun e w' => ∃ v' vs P, e = .returned v' ∧ w'.ownsRow w.heap.size 23 1 v' P.length vs ∧ Pcs vs P wa ∧ P.length = ls.length + 1 ∧ P.flatten = d ∧ Below w.heap.size w w' := by
  have hu : Si .u8 u ls w := hu0.below hbw
  obtain ⟨o0, c0, rfl, _⟩ := hv.form
  obtain ⟨o1, c1, rfl, _, _, hf⟩ := hu.form
  have HF : Hid (∀ j, j < ls.length → ∃ b off, o1 = some ⟨b, off, none⟩ ∧ b < w.heap.size ∧ w.cell? ⟨b, off + j, none⟩ = some (.int .u8 ((ls.getD j 0 : Nat) : Int))) := fun j hj => by
    obtain ⟨b, off, q1, q2, q3⟩ := hf (by omega)
    exact ⟨b, off, q1, q2, q3 j hj⟩
  have HV : Hid (Si .u8 (.slice o0 d.length c0) d wa) := hv
  have HLB : Hid (Byt ls) := hlb
  clear hv hu hu0 hf hlb hbw
  go_enter Try.func28, Try.ntmps28
  go_wp2_with fail
  go_loopw [0, 5, 6] (fun dv ov iv wr => ∃ (i nd co : Nat) (od oo : Option Addr) (cd : Nat) (vs : List Value), iv = .int .i64 (i : Int) ∧ dv = .slice od nd cd ∧ ov = .slice oo i co ∧ i ≤ ls.length ∧ Hid (nd = (cutL d ls i).2.length) ∧ nd ≤ 1073741824 ∧ Hid (Si .u8 (.slice od nd cd) (cutL d ls i).2 wa) ∧ Hid (wr.ownsRow w.heap.size 23 1 (.slice oo i co) i vs) ∧ Hid (Pcs vs (cutL d ls i).1 wa) ∧ Hid (Below w.heap.size w wr)) (fun _ _ iv _ => ls.length - (intOf iv).toNat)
  case atStart => exact ⟨0, d.length, 0, o0, none, c0, [], rfl, rfl, rfl, by omega, rfl, hd, HV, World.ownsRow_nil _ _ _ _, ⟨rfl, fun j hj => by simp [cutL] at hj⟩, Below.refl _ _⟩
  case round =>
    obtain ⟨i, nd, co, od, oo, cd, vs, rfl, rfl, rfl, hi, HND, hnd, HD, HO, HP, HB⟩ := hrel
    by_cases hlt : i < ls.length
    · have hi0 : (0 : Int) ≤ (i : Int) := by omega
      have hi1 : (i : Int) < (ls.length : Int) := by omega
      obtain ⟨b, off, rfl, hb, hcell⟩ := HF.out i hlt
      have hx256 : ls.getD i 0 < 256 := getD_byt HLB.out i
      obtain ⟨x, hx⟩ : ∃ x, x = ls.getD i 0 := ⟨_, rfl⟩
      rw [← hx] at hcell hx256
      have c1 : wr.cell? ⟨b, off + i, none⟩ = some (.int .u8 (x : Int)) := (World.cell?_of_block (w := w) (HB.out.block b hb)).trans hcell
      obtain ⟨q, hq⟩ : ∃ q, q = x % 40 := ⟨_, rfl⟩
      have e1 : Int.tmod (x : Int) 40 = (q : Int) := by rw [hq]; exact (Int.ofNat_tmod x 40).symm
      obtain ⟨k, hk⟩ : ∃ k, k = ctk x (cutL d ls i).2 := ⟨_, rfl⟩
      have hkn : k = min q nd := by rw [hk, ctk, ← hq, ← HND.out]
      obtain ⟨oh, ch, ot, ct', s1, z1, s2, z2⟩ := cut2 _ _ k (by rw [← HND.out]; omega) wa HD.out
      rw [← HND.out] at s2 z2
      obtain ⟨v', w', r, ho, hg⟩ := run_apL wr w.heap.size i _ vs oh k ch HO.out (by omega) HB.out.size
      obtain ⟨oo', co', rfl⟩ := own_form ho
      have HB2 : Hid (Below w.heap.size w w') := HB.out.trans ⟨by rw [hg.os]; rfl, by rw [hg.tape]; rfl, by rw [hg.output]; rfl, by have := hg.size; simp at this; omega, fun j hj => by
        have hz := HB.out.size
        rw [hg.block j (by simp; omega) (fun e => by have := (HO.out.lt j e.symm).1; omega), heap_alloc_old _ _ (h := by omega)]⟩
      have HO2 : Hid (w'.ownsRow w.heap.size 23 1 (.slice oo' (i + 1) co') (i + 1) (vs ++ [.slice oh k ch])) := ho
      have hc1 : (cutL d ls (i + 1)).1 = (cutL d ls i).1 ++ [(cutL d ls i).2.take k] := by rw [cutL, ← hx, ← hk]
      have hc2 : (cutL d ls (i + 1)).2 = (cutL d ls i).2.drop k := by rw [cutL, ← hx, ← hk]
      have HP2 : Hid (Pcs (vs ++ [.slice oh k ch]) (cutL d ls (i + 1)).1 wa) := by
        rw [hc1]
        exact HP.out.snoc oh ch k _ (by rw [List.length_take, ← HND.out]; omega) z1
      have HD2 : Hid (Si .u8 (.slice ot (nd - k) ct') (cutL d ls (i + 1)).2 wa) := by rw [hc2]; exact z2
      have HND2 : Hid (nd - k = (cutL d ls (i + 1)).2.length) := by show _ = _; rw [hc2, List.length_drop, ← HND.out]
      have hcase : (¬ (q : Int) > (nd : Int) ∧ Hid (q = k)) ∨ ((q : Int) > (nd : Int) ∧ Hid (nd = k)) := by
        by_cases h : nd < q
        · exact .inr ⟨by omega, by show _ = _; omega⟩
        · exact .inl ⟨by omega, by show _ = _; omega⟩
      obtain ⟨nk, hnk⟩ : ∃ nk, nk = nd - k := ⟨_, rfl⟩
      have hnk2 : nk ≤ 1073741824 := by omega
      rw [← hnk] at s2 HD2 HND2
      clear hkn hk hq hx hcell HO HP HD HND ho hg z1 z2 hc1 hc2 HB hnk
      rcases hcase with ⟨h1, h2⟩ | ⟨h1, h2⟩
      · have h3 := h2.out
        subst h3
        clear h2
        go_wp2
        exact ⟨⟨i + 1, nk, co', ot, oo', ct', _, by rfl, rfl, rfl, by omega, HND2, hnk2, HD2, HO2, HP2, HB2⟩, by simp only [intOf]; omega⟩
      · have h3 := h2.out
        subst h3
        clear h2
        go_wp2
        exact ⟨⟨i + 1, nk, co', ot, oo', ct', _, by rfl, rfl, rfl, by omega, HND2, hnk2, HD2, HO2, HP2, HB2⟩, by simp only [intOf]; omega⟩
    · have hi1 : ¬ ((i : Int) < (ls.length : Int)) := by omega
      obtain ⟨v', w', r, ho, hg⟩ := run_apL wr w.heap.size i _ vs od nd cd HO.out (by omega) HB.out.size
      have HE : Hid (∃ vs P, w'.ownsRow w.heap.size 23 1 v' P.length vs ∧ Pcs vs P wa ∧ P.length = ls.length + 1 ∧ P.flatten = d ∧ Below w.heap.size w w') := by
        have hle := cutL_len d ls i
        refine ⟨_, (cutL d ls i).1 ++ [(cutL d ls i).2], ?_, HP.out.snoc od cd nd _ HND.out HD.out, by rw [List.length_append, hle, List.length_singleton]; omega, ?_, ?_⟩
        · rw [List.length_append, hle, List.length_singleton]; exact ho
        · have := cutL_flat d ls i
          simp only [List.flatten_append, List.flatten_cons, List.flatten_nil, List.append_nil]
          exact this
        · exact HB.out.trans ⟨by rw [hg.os]; rfl, by rw [hg.tape]; rfl, by rw [hg.output]; rfl, by have := hg.size; simp at this; omega, fun j hj => by
            have hz := HB.out.size
            rw [hg.block j (by simp; omega) (fun e => by have := (HO.out.lt j e.symm).1; omega), heap_alloc_old _ _ (h := by omega)]⟩
      clear ho hg HO HP HD HB HND hi hlt
      go_wp2
      go_ret
      obtain ⟨vs, P, z⟩ := HE.out
      exact ⟨_, rfl, vs, P, z⟩
end Go.Proofs.Ytceaklefdahfkab
