/- Split of any text: the code's. -/
import Derived.Test.YtmfkhpledgnipaaDoorPaG
namespace Go.Proofs.YtmfkhpledgnipaaDoor
open Go.RowKit
/-- Where the label's text ends. -/
def endN (s : ByteArray) : Nat := if s.size ≤ 13 then s.size else 13 + (pre 47 (s.data.toList.drop 13)).length
theorem endN_le (s : ByteArray) : endN s ≤ s.size := by
  unfold endN
  split
  · exact Nat.le_refl _
  · have := pre_len 47 (s.data.toList.drop 13)
    rw [List.length_drop] at this
    have hl : s.data.toList.length = s.size := Array.length_toList
    omega
set_option maxHeartbeats 1000000 in
theorem lendG_any (s : ByteArray) (hs : s.size ≤ 16384) (w : World) :
    Calls Tryd.prog 28 #[.string s] w fun e w' => e = .returned (.int .i64 ((endN s : Nat) : Int)) ∧ w' = w := by
  obtain ⟨n, hn⟩ : ∃ n, n = endN s := ⟨_, rfl⟩
  rw [← hn]
  unfold endN at hn
  by_cases h13 : s.size ≤ 13
  · rw [if_pos h13] at hn
    have h1 : (s.size : Int) ≤ 13 := by omega
    subst hn
    go_enter Tryd.func28, Tryd.ntmps28
    go_wp2_with fail
    go_ret
    exact ⟨rfl, rfl⟩
  · rw [if_neg h13] at hn
    obtain ⟨r, hr⟩ : ∃ r, r = s.data.toList.drop 13 := ⟨_, rfl⟩
    have hx : s.extract 13 s.size = ofL r := by rw [hr]; exact ext_drop s 13
    have hrl : r.length = s.size - 13 := by rw [hr, List.length_drop, Array.length_toList]; rfl
    rw [← hr] at hn
    have hpl := pre_len 47 r
    have h1 : ¬ ((s.size : Int) ≤ 13) := by omega
    have h2 : (13 : Int) ≤ (s.size : Int) := by omega
    have CX : Hid (∀ V, Calls Tryd.prog 40 #[.string (ofL r), .int .u8 47] V fun e w' => e = .returned (.int .i64 (if (pre 47 r).length < r.length then (((pre 47 r).length : Nat) : Int) else -1)) ∧ w' = V) := fun V => by
      have := ixb_any (ofL r) 47 V
      rw [show ((47 : Int).toNat.toUInt8) = 47 from rfl, ofL_list, ix_pre] at this
      exact this
    obtain ⟨m, hm⟩ : ∃ m, m = (pre 47 r).length := ⟨_, rfl⟩
    rw [← hm] at CX hn hpl
    have HN : Hid (n = 13 + m ∧ r.length = s.size - 13) := ⟨hn, hrl⟩
    clear hr hm hn hrl
    go_enter Tryd.func28, Tryd.ntmps28
    by_cases hlt : m < r.length
    · rw [if_pos hlt] at CX
      have h3 : (0 : Int) ≤ (m : Int) := by omega
      have h4 : IntKind.i64.wrap (13 + (m : Int)) = 13 + (m : Int) := by rw [IntKind.wrap_i64]; have := HN.out; omega
      go_wp2_with fail
      refine (CX.out _).mono ?_
      rintro _ w' ⟨rfl, rfl⟩
      go_wp2_with fail
      go_ret
      exact ⟨by rw [HN.out.1]; simp, rfl⟩
    · rw [if_neg hlt] at CX
      have hsz' : Hid ((s.size : Int) = (n : Int)) := by have := HN.out; show (_ = _); omega
      go_wp2_with fail
      refine (CX.out _).mono ?_
      rintro _ w' ⟨rfl, rfl⟩
      go_wp2_with fail
      go_ret
      exact ⟨by rw [← hsz'.out]; rfl, rfl⟩
theorem paV_form (s : ByteArray) : ((paV s).2.1 = 0 ∧ ∃ h nm, h.length = 20 ∧ Byt h ∧ (paV s).1 = lab h nm ∧ (paV s).2.2 = 0) ∨ (¬ (paV s).2.1 = 0 ∧ (paV s).1 = none25) := by
  unfold paV
  split
  · exact .inr ⟨by decide, rfl⟩
  split
  · rename_i e i hh
    refine .inr ⟨?_, rfl⟩
    have : ∀ f k, hdV s f k = some (e, i) → ¬ e = 0 := by
      intro f
      induction f with
      | zero => intro k hk; simp [hdV] at hk
      | succ f ih =>
        intro k hk
        unfold hdV at hk
        split at hk
        · simp at hk; omega
        split at hk
        · simp at hk; omega
        · exact ih _ hk
    exact this _ _ hh
  · rcases pbV_form (s.extract 13 s.size) with ⟨f1, h, nm, hl, hb, f2, f3⟩ | ⟨f1, f2, f3⟩
    · rw [if_neg (by simpa using f1)]
      exact .inl ⟨rfl, h, nm, hl, hb, f2, rfl⟩
    · rw [if_pos f1]
      exact .inr ⟨f1, rfl⟩
/-- What Split answers at any text. -/
def SgPost (s : ByteArray) (w : World) (e : Ending) (w' : World) : Prop :=
  Below w.heap.size w w' ∧
  if 16384 < s.size then e = .returned (.tuple #[.agg none25, .slice none 0 0, .int .i64 1, .int .i64 0])
  else if ¬ (paV (ofL (s.data.toList.take (endN s)))).2.1 = 0 then e = .returned (.tuple #[.agg none25, .slice none 0 0, .int .i64 (((paV (ofL (s.data.toList.take (endN s)))).2.1 : Nat) : Int), .int .i64 (((paV (ofL (s.data.toList.take (endN s)))).2.2 : Nat) : Int)])
  else match spl (s.size - endN s) (s.data.toList.drop (endN s)) 0 [] with
    | (acc, none) => ∃ v, e = .returned (.tuple #[.agg (paV (ofL (s.data.toList.take (endN s)))).1, v, .int .i64 0, .int .i64 0]) ∧ w'.ownsRow w.heap.size 9 1 v acc.length (ts acc)
    | (_, some k) => e = .returned (.tuple #[.agg none25, .slice none 0 0, .int .i64 32, .int .i64 ((endN s + k : Nat) : Int)])
attribute [local go_sem] zero25
attribute [local go_sem ↓] to25s to25l toBuild
set_option maxRecDepth 100000 in
set_option maxHeartbeats 3200000 in
theorem splitC_any (s : ByteArray) (w : World) (ht : Tx w) :
    Calls Tryd.prog 14 #[.string s] w (SgPost s w) := by
  have bel0 : Below w.heap.size w (w.alloc (.cells none25 25)) := (Below.refl _ w).alloc (Nat.le_refl _) _
  have HT : Hid (∀ V, Below w.heap.size w V → Tx V) := fun V hV => ht.below hV ht.sz
  have hbu0 := run_build0
  clear ht
  have END : Hid (∀ (W : World), W.heap[w.heap.size]? = some (.cells none25 25 (0, 0)) → Below w.heap.size w W → (storeR 25 (.pointer (some ⟨w.heap.size, 0, none⟩)) (.agg none25)).run Tryd.prog W = .ok () (W.setRow w.heap.size none25) ∧ (W.setRow w.heap.size none25).heap[w.heap.size]? = some (.cells none25 25 (0, 0)) ∧ Below w.heap.size w (W.setRow w.heap.size none25)) := fun W hr hb =>
    ⟨run_storeR25 W w.heap.size z20 z20 ⟨#[]⟩ ⟨#[]⟩ hr rfl rfl, setRow_heap _ _ _ _ _ _ hr, below_setRow hb (Nat.le_refl _) _⟩
  by_cases hbig : 16384 < s.size
  · have h1 : (16384 : Int) < (s.size : Int) := by omega
    obtain ⟨st, hres, bel⟩ := END.out (w.alloc (.cells none25 25)) (heap_alloc_new _ _) bel0
    replace st : (storeR 25 (.pointer (some ⟨w.heap.size, 0, none⟩)) (.agg none25)).run Tryd.prog (w.alloc (.cells #[.int .u8 0, .int .u8 0, .int .u8 0, .int .u8 0, .int .u8 0, .int .u8 0, .int .u8 0, .int .u8 0, .int .u8 0, .int .u8 0, .int .u8 0, .int .u8 0, .int .u8 0, .int .u8 0, .int .u8 0, .int .u8 0, .int .u8 0, .int .u8 0, .int .u8 0, .int .u8 0, .string ⟨#[]⟩] 25)) = .ok () ((w.alloc (.cells none25 25)).setRow w.heap.size none25) := st
    have HF : Hid (((w.alloc (.cells none25 25)).setRow w.heap.size none25).heap[w.heap.size]? = some (.cells none25 25 (0, 0)) ∧ Below w.heap.size w ((w.alloc (.cells none25 25)).setRow w.heap.size none25)) := ⟨hres, bel⟩
    clear bel0 hres bel
    go_enter Tryd.func14, Tryd.ntmps14
    go_wp2_with fail
    exact bodyPost_ret (results_cell4 rfl _ _ w.heap.size z20 ⟨#[]⟩ rfl rfl HF.out.1) rfl ⟨HF.out.2, by rw [if_pos hbig]; rfl⟩
  have h1 : ¬ (16384 : Int) < (s.size : Int) := by omega
  obtain ⟨n, hn⟩ : ∃ n, n = endN s := ⟨_, rfl⟩
  have hnl : n ≤ s.size := by rw [hn]; exact endN_le s
  obtain ⟨A, hA⟩ : ∃ A, A = ofL (s.data.toList.take n) := ⟨_, rfl⟩
  obtain ⟨W, hW⟩ : ∃ W, W = s.data.toList.drop n := ⟨_, rfl⟩
  have hWl : W.length = s.size - n := by rw [hW, List.length_drop, Array.length_toList]; rfl
  have hx1 : s.extract 0 n = A := by rw [hA]; exact ext_take s n
  have hx2 : s.extract n s.size = ofL W := by rw [hW]; exact ext_drop s n
  obtain ⟨q, hq⟩ : ∃ q, q = paV A := ⟨_, rfl⟩
  have hform := paV_form A
  rw [← hq] at hform
  have CL : Hid (∀ V, Calls Tryd.prog 28 #[.string s] V fun e w' => e = .returned (.int .i64 (n : Int)) ∧ w' = V) := fun V => by rw [hn]; exact lendG_any s (by omega) V
  have CP : Hid (∀ V, Tx V → Calls Tryd.prog 12 #[.string A] V fun e w' => e = .returned (three q) ∧ Below V.heap.size V w') := fun V hV => by rw [hq]; exact paC_any A V hV
  have CS : Hid (∀ V, Calls Tryd.prog 29 #[.string (ofL W)] V (StPost (ofL W) V)) := fun V => steps_any (ofL W) (by rw [ofL_size]; omega) V
  have PO : Hid (∀ e W', Below w.heap.size w W' → (if ¬ q.2.1 = 0 then e = .returned (.tuple #[.agg none25, .slice none 0 0, .int .i64 (q.2.1 : Int), .int .i64 (q.2.2 : Int)]) else match spl W.length W 0 [] with
    | (acc, none) => ∃ v, e = .returned (.tuple #[.agg q.1, v, .int .i64 0, .int .i64 0]) ∧ W'.ownsRow w.heap.size 9 1 v acc.length (ts acc)
    | (_, some k) => e = .returned (.tuple #[.agg none25, .slice none 0 0, .int .i64 32, .int .i64 ((n + k : Nat) : Int)])) → SgPost s w e W') := fun e W' hb h => by
    refine ⟨hb, ?_⟩
    rw [if_neg hbig, ← hn, ← hA, ← hq, ← hW, ← hWl]
    exact h
  have h2 : (n : Int) ≤ (s.size : Int) := by omega
  have h3 : (0 : Int) ≤ (n : Int) := by omega
  have HB0 : Hid (Below w.heap.size w (w.alloc (.cells none25 25))) := bel0
  have HN : Hid (n ≤ 16384 ∧ W.length ≤ 16384) := ⟨by omega, by omega⟩
  clear hn hA hW hq hWl bel0 hnl
  go_enter Tryd.func14, Tryd.ntmps14
  go_wp2_with fail
  refine (CL.out (w.alloc (.cells none25 25))).mono ?_
  obtain ⟨W0, hW0⟩ : ∃ V, V = w.alloc (.cells none25 25) := ⟨_, rfl⟩
  rw [← hW0]
  have r0 : Hid (W0.heap[w.heap.size]? = some (.cells none25 25 (0, 0))) := by rw [hW0]; exact heap_alloc_new _ _
  have b0 : Below w.heap.size w W0 := by rw [hW0]; exact HB0.out
  clear hW0 HB0
  rintro _ V ⟨rfl, rfl⟩
  unfold three at CP
  rcases hform with ⟨f1, h, nm, hl, _, f2, f3⟩ | ⟨f1, f2⟩
  · obtain ⟨q1, q2, q3⟩ := q
    simp only at f1 f2 f3
    subst f1 f2 f3
    go_wp2_with fail
    refine (CP.out _ (HT.out _ b0)).mono ?_
    rintro _ W1 ⟨rfl, b1⟩
    have hG : w.heap.size < V.heap.size := (Array.getElem?_eq_some_iff.1 r0.out).1
    have r1 : W1.heap[w.heap.size]? = some (.cells none25 25 (0, 0)) := (b1.block _ hG).trans r0.out
    have z1 : w.heap.size < W1.heap.size := (Array.getElem?_eq_some_iff.1 r1).1
    have bel1 : Below w.heap.size w W1 := b0.trans (b1.mono b0.size)
    have s1 : (storeR 25 (.pointer (some ⟨W1.heap.size, 0, none⟩)) (.agg (lab h nm))).run Tryd.prog (W1.alloc (.cells #[.int .u8 0, .int .u8 0, .int .u8 0, .int .u8 0, .int .u8 0, .int .u8 0, .int .u8 0, .int .u8 0, .int .u8 0, .int .u8 0, .int .u8 0, .int .u8 0, .int .u8 0, .int .u8 0, .int .u8 0, .int .u8 0, .int .u8 0, .int .u8 0, .int .u8 0, .int .u8 0, .string ⟨#[]⟩] 25)) = .ok () ((W1.alloc (.cells none25 25)).setRow W1.heap.size (lab h nm)) := run_storeR25 (W1.alloc (.cells none25 25)) W1.heap.size z20 h ⟨#[]⟩ nm (heap_alloc_new _ _) rfl hl
    obtain ⟨W2, hW2⟩ : ∃ W, W = (W1.alloc (.cells none25 25)).setRow W1.heap.size (lab h nm) := ⟨_, rfl⟩
    have rn : Hid (W2.heap[W1.heap.size]? = some (.cells (lab h nm) 25 (0, 0))) := by rw [hW2]; exact setRow_heap _ _ _ _ _ _ (heap_alloc_new _ _)
    have r2 : Hid (W2.heap[w.heap.size]? = some (.cells none25 25 (0, 0))) := by rw [hW2]; exact (setRow_other _ _ _ _ (by omega)).trans ((heap_alloc_old _ _ (h := z1)).trans r1)
    have bel2 : Below w.heap.size w W2 := by rw [hW2]; exact below_setRow (bel1.alloc (by omega) _) (by omega) _
    rw [← hW2] at s1
    clear hW2 r1 b1 bel1 r0 b0 hG
    have Z1 : Hid (w.heap.size < W1.heap.size) := z1
    clear z1
    go_wp2_with fail
    refine (CS.out _).mono ?_
    rintro e W3 ⟨b3, hif⟩
    have z2 : W1.heap.size < W2.heap.size := (Array.getElem?_eq_some_iff.1 rn.out).1
    have z1 := Z1.out
    have R3 : Hid (W3.heap[w.heap.size]? = some (.cells none25 25 (0, 0))) := (b3.block _ (by omega)).trans r2.out
    have RN3 : Hid (W3.heap[W1.heap.size]? = some (.cells (lab h nm) 25 (0, 0))) := (b3.block _ z2).trans rn.out
    have bel3 : Below w.heap.size w W3 := bel2.trans (b3.mono (by omega))
    have z23 : W2.heap.size ≤ W3.heap.size := b3.size
    rw [ofL_size, ofL_list] at hif
    obtain ⟨res, hres⟩ : ∃ r, spl W.length W 0 [] = r := ⟨_, rfl⟩
    rw [hres] at hif
    have HRES : Hid (spl W.length W 0 [] = res) := hres
    clear hres s1 rn r2 bel2 b3
    match res with
    | (acc, none) =>
      obtain ⟨v, rfl, hown⟩ := hif
      have l3 := run_loadR25 W3 W1.heap.size h nm RN3.out hl
      have s3 := run_storeR25 W3 w.heap.size z20 h ⟨#[]⟩ nm R3.out rfl hl
      have hfin : Hid ((W3.setRow w.heap.size (lab h nm)).heap[w.heap.size]? = some (.cells (lab h nm) 25 (0, 0))) := setRow_heap _ _ _ _ _ _ R3.out
      have bel4 : Below w.heap.size w (W3.setRow w.heap.size (lab h nm)) := below_setRow bel3 (Nat.le_refl _) _
      have hown' : Hid ((W3.setRow w.heap.size (lab h nm)).ownsRow w.heap.size 9 1 v acc.length (ts acc)) := by
        obtain ⟨hlen, hv⟩ := hown
        refine ⟨hlen, ?_⟩
        rcases hv with hv | ⟨g, cap, cur, h1, h2, h3, h4⟩
        · exact .inl hv
        · exact .inr ⟨g, cap, cur, h1, by omega, (setRow_other _ _ _ _ (by omega)).trans h3, h4⟩
      clear hown
      go_wp2_with fail
      refine bodyPost_ret (results_cell4 rfl _ _ w.heap.size h nm hl rfl hfin.out) rfl (PO.out _ _ bel4 ?_)
      rw [if_neg (by simp), HRES.out]
      exact ⟨v, rfl, hown'.out⟩
    | (acc, some k) =>
      replace hif : e = .returned (.tuple #[.slice none 0 0, .int .i64 32, .int .i64 (k : Int)]) := hif
      subst hif
      have hk : k ≤ 32768 := by have := spl_le _ _ _ _ _ _ HRES.out; have := HN.out; omega
      have hadd : IntKind.i64.wrap ((n : Int) + (k : Int)) = (n : Int) + (k : Int) := by rw [IntKind.wrap_i64]; have := HN.out; omega
      obtain ⟨s3, hres, bel'⟩ := END.out W3 R3.out bel3
      have HF : Hid ((W3.setRow w.heap.size none25).heap[w.heap.size]? = some (.cells none25 25 (0, 0)) ∧ Below w.heap.size w (W3.setRow w.heap.size none25)) := ⟨hres, bel'⟩
      clear hres bel'
      go_wp2_with fail
      refine bodyPost_ret (results_cell4 rfl _ _ w.heap.size z20 ⟨#[]⟩ rfl rfl HF.out.1) rfl (PO.out _ _ HF.out.2 ?_)
      rw [if_neg (by simp), HRES.out]
      show _ = _
      simp
      rfl
  · obtain ⟨q1, q2, q3⟩ := q
    simp only at f1 f2
    subst f2
    have f1' : ((q2 : Int) != 0) = true := by simp; omega
    go_wp2_with fail
    refine (CP.out _ (HT.out _ b0)).mono ?_
    rintro _ W1 ⟨rfl, b1⟩
    have hG : w.heap.size < V.heap.size := (Array.getElem?_eq_some_iff.1 r0.out).1
    have r1 : W1.heap[w.heap.size]? = some (.cells none25 25 (0, 0)) := (b1.block _ hG).trans r0.out
    have z1 : w.heap.size < W1.heap.size := (Array.getElem?_eq_some_iff.1 r1).1
    have bel1 : Below w.heap.size w W1 := b0.trans (b1.mono b0.size)
    have s1 : (storeR 25 (.pointer (some ⟨W1.heap.size, 0, none⟩)) (.agg none25)).run Tryd.prog (W1.alloc (.cells #[.int .u8 0, .int .u8 0, .int .u8 0, .int .u8 0, .int .u8 0, .int .u8 0, .int .u8 0, .int .u8 0, .int .u8 0, .int .u8 0, .int .u8 0, .int .u8 0, .int .u8 0, .int .u8 0, .int .u8 0, .int .u8 0, .int .u8 0, .int .u8 0, .int .u8 0, .int .u8 0, .string ⟨#[]⟩] 25)) = .ok () ((W1.alloc (.cells none25 25)).setRow W1.heap.size none25) := run_storeR25 (W1.alloc (.cells none25 25)) W1.heap.size z20 z20 ⟨#[]⟩ ⟨#[]⟩ (heap_alloc_new _ _) rfl rfl
    obtain ⟨W2, hW2⟩ : ∃ W, W = (W1.alloc (.cells none25 25)).setRow W1.heap.size none25 := ⟨_, rfl⟩
    have r2 : W2.heap[w.heap.size]? = some (.cells none25 25 (0, 0)) := by rw [hW2]; exact (setRow_other _ _ _ _ (by omega)).trans ((heap_alloc_old _ _ (h := z1)).trans r1)
    have bel2 : Below w.heap.size w W2 := by rw [hW2]; exact below_setRow (bel1.alloc (by omega) _) (by omega) _
    rw [← hW2] at s1
    obtain ⟨st, hres, bel'⟩ := END.out W2 r2 bel2
    have HF : Hid ((W2.setRow w.heap.size none25).heap[w.heap.size]? = some (.cells none25 25 (0, 0)) ∧ Below w.heap.size w (W2.setRow w.heap.size none25)) := ⟨hres, bel'⟩
    clear hW2 r2 r1 b1 bel1 bel2 z1 hres bel' r0 b0
    go_wp2_with fail
    refine bodyPost_ret (results_cell4 rfl _ _ w.heap.size z20 ⟨#[]⟩ rfl rfl HF.out.1) rfl (PO.out _ _ HF.out.2 ?_)
    rw [if_pos f1]
    rfl
end Go.Proofs.YtmfkhpledgnipaaDoor
