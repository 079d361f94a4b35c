/- The document's guess. Made by a program: the loop stands in it three times. -/
import Derived.Test.YtffghlbgbfhfdaaGreatDoorLhB
import Derived.BigRegion
namespace Go.Proofs.YtffghlbgbfhfdaaGreatDoor
open Go.RowKit Go.Shelf Go.Sort
theorem tl_ofL (p : List UInt8) : (ofL p).toList = p := by rw [ByteArray.toList_eq]; simp [ofL]
theorem kw_k {F : Fg} (ok : Ok F) {p0 : List UInt8} {mid : List (List UInt8)} {hx nm : List UInt8} (h : Sd F p0 mid hx nm) (j : Int) (hj : 1 ≤ j ∧ j ≤ 4) (e : ((ofL p0).toList == bl (kwV j)) = true) : F.k = j := by
  rw [tl_ofL, h.kw] at e
  exact kwV_inj ⟨ok.k1, ok.k4⟩ hj (eq_of_beq e)
theorem kw_n {F : Fg} {p0 : List UInt8} {mid : List (List UInt8)} {hx nm : List UInt8} (h : Sd F p0 mid hx nm) (j : Int) (e : ((ofL p0).toList == bl (kwV j)) = false) : F.k ≠ j := by
  intro h1
  rw [tl_ofL, h.kw, h1] at e
  simp at e
theorem kwb1 : bl (kwV 1) = [116, 101, 120, 116] := by decide
theorem kwb2 : bl (kwV 2) = [115, 111, 117, 114, 99, 101] := by decide
theorem kwb3 : bl (kwV 3) = [111, 117, 116, 112, 117, 116] := by decide
theorem kwb4 : bl (kwV 4) = [109, 101, 109, 98, 101, 114] := by decide
theorem lab_inj {x y : Lb} (h : lab x.h x.s = lab y.h y.s) : x = y := by
  have hx : (bs x.h).size = 20 := by rw [bs_size, x.hl]
  have hy : (bs y.h).size = 20 := by rw [bs_size, y.hl]
  have h2 := congrArg Array.toList h
  unfold lab at h2
  rw [Array.toList_append, Array.toList_append] at h2
  obtain ⟨e1, e2⟩ := List.append_inj h2 (by rw [Array.length_toList, Array.length_toList, hx, hy])
  have e3 : x.h = y.h := by
    rw [bs_toList, bs_toList] at e1
    refine List.map_inj_right (f := fun (b : Nat) => Value.int .u8 (b : Int)) (fun a b hab => ?_) |>.1 e1
    simp at hab
    omega
  have e4 : x.s = y.s := by simpa using e2
  exact Lb.ext' e3 e4
theorem sd_out {F : Fg} (ok : Ok F) {p0 : List UInt8} {mid : List (List UInt8)} {hx nm : List UInt8} (h : Sd F p0 mid hx nm) (hk : F.k = 3) : mid = [bl F.out] ∧ F.L = [] ∧ F.self = false ∧ F.ix = 0 := by
  obtain ⟨f1, f2, f3, f4⟩ := un_facts ok
  have l1 : F.L = [] := f1 (by omega)
  have a1 : F.self = false := f2 (by omega)
  refine ⟨?_, l1, a1, f4 (by omega)⟩
  rw [h.md, l1, dd_none]
  unfold tlP
  rw [a1, if_pos hk]
  rfl
theorem sd_mem {F : Fg} (ok : Ok F) {p0 : List UInt8} {mid : List (List UInt8)} {hx nm : List UInt8} (h : Sd F p0 mid hx nm) (hk : F.k = 4) : mid = [bl (itoaT F.ix.toNat)] ∧ F.L = [] ∧ F.self = false ∧ F.out = ⟨#[]⟩ ∧ 0 ≤ F.ix ∧ F.ix < 64 := by
  obtain ⟨f1, f2, f3, f4⟩ := un_facts ok
  have l1 : F.L = [] := f1 (by omega)
  have a1 : F.self = false := f2 (by omega)
  refine ⟨?_, l1, a1, f3 (by omega), ok.i0, ok.i6⟩
  rw [h.md, l1, dd_none]
  unfold tlP
  rw [a1, if_neg (show ¬ F.k = 3 by omega), if_pos hk]
  rfl
theorem sd_txt {F : Fg} (ok : Ok F) {p0 : List UInt8} {mid : List (List UInt8)} {hx nm : List UInt8} (h : Sd F p0 mid hx nm) (hk : F.k = 1) {sm : List Nat} {N : ByteArray} (hs : sm = F.sm ∧ N = F.nm) : 1 = F.k ∧ false = F.self ∧ ⟨#[]⟩ = F.out ∧ 0 = F.ix ∧ sm = F.sm ∧ N = F.nm ∧ mid = (dd (srt F.L)).map prT := by
  obtain ⟨f1, f2, f3, f4⟩ := un_facts ok
  have a1 : F.self = false := f2 (by omega)
  refine ⟨hk.symm, a1.symm, (f3 (by omega)).symm, (f4 (by omega)).symm, hs.1, hs.2, ?_⟩
  rw [h.md, tlP_12 (by omega), a1]
  simp
theorem sd_src {F : Fg} (ok : Ok F) {p0 : List UInt8} {mid : List (List UInt8)} {hx nm : List UInt8} (h : Sd F p0 mid hx nm) (hk : F.k = 2) {sm : List Nat} {N : ByteArray} (hs : sm = F.sm ∧ N = F.nm) : 2 = F.k ∧ ⟨#[]⟩ = F.out ∧ 0 = F.ix ∧ sm = F.sm ∧ N = F.nm ∧ mid = (dd (srt F.L)).map prT ++ (if F.self then [bl selfW] else []) := by
  obtain ⟨f1, f2, f3, f4⟩ := un_facts ok
  refine ⟨hk.symm, (f3 (by omega)).symm, (f4 (by omega)).symm, hs.1, hs.2, ?_⟩
  rw [h.md, tlP_12 (by omega)]
theorem src_no {M : List Lb} {b : Bool} {mid : List (List UInt8)} (h : mid = M.map prT ++ (if b then [bl selfW] else [])) (hn : mid = [] ∨ ∃ i q, mid[i]? = some q ∧ mid.length = i + 1 ∧ ((ofL q).toList == [115, 101, 108, 102]) = false) : b = false ∧ mid = M.map prT := by
  cases b with
  | false => exact ⟨rfl, by rw [h]; simp⟩
  | true =>
    exfalso
    rcases hn with rfl | ⟨i, q, h1, h2, h3⟩
    · simp at h
    · rw [h] at h1 h2
      simp only [if_true, List.length_append, List.length_singleton] at h2
      have hi : i = (M.map prT).length := by omega
      rw [hi] at h1
      simp only [if_true, List.getElem?_append_right (Nat.le_refl _), Nat.sub_self] at h1
      have hq : q = bl selfW := by simpa using h1.symm
      rw [tl_ofL, hq] at h3
      revert h3
      decide
theorem src_yes {M : List Lb} {b : Bool} {mid : List (List UInt8)} (h : mid = M.map prT ++ (if b then [bl selfW] else [])) {i : Nat} {q : List UInt8} (h1 : mid[i]? = some q) (h2 : mid.length = i + 1) (h3 : ((ofL q).toList == [115, 101, 108, 102]) = true) : b = true ∧ mid.take i = M.map prT := by
  rw [tl_ofL] at h3
  have hq : q = bl selfW := by rw [eq_of_beq h3]; decide
  cases b with
  | false =>
    exfalso
    have hmem : q ∈ M.map prT := by
      rw [show M.map prT = mid by rw [h]; simp]
      exact List.mem_of_getElem? h1
    obtain ⟨x, _, hx⟩ := List.mem_map.1 hmem
    exact prT_self x (by rw [hx, hq])
  | true =>
    refine ⟨rfl, ?_⟩
    rw [h] at h2 ⊢
    simp only [if_true, List.length_append, List.length_singleton] at h2
    exact List.take_left' (by omega)
theorem par_ok {T : ByteArray} {t : List UInt8} {x : Lb} {E F' : Nat} {Q : List (List UInt8)} {i : Nat} (hT : T = ofL t) (h3 : three (paV T) = .tuple #[.agg (lab x.h x.s), .int .i64 (E : Int), .int .i64 (F' : Int)]) (ht : Q[i]? = some t) (M : List Lb) (hM : ∀ x ∈ M, okN x.s = 0 ∧ Byt x.h) (hQ : Q = M.map prT) : E = 0 ∧ M.take (i + 1) = M.take i ++ [x] := by
  rw [hQ, List.getElem?_map] at ht
  obtain ⟨y, hy, hyt⟩ := Option.map_eq_some_iff.1 ht
  have hm := List.mem_of_getElem? hy
  have hil := (List.getElem?_eq_some_iff.1 hy).1
  have e : T = store ++ baseS y.h y.s := by rw [hT, ← hyt]; rfl
  rw [e, paV_print y (hM y hm).2 (hM y hm).1] at h3
  simp only [three, Value.tuple.injEq] at h3
  have h4 := congrArg Array.toList h3
  simp only [List.cons.injEq, Value.agg.injEq, Value.int.injEq, true_and, and_true] at h4
  obtain ⟨h5, h6, -⟩ := h4
  have hxy : y = x := lab_inj h5
  refine ⟨by omega, ?_⟩
  rw [List.take_succ_eq_append_getElem hil]
  have : M[i] = y := by
    have := List.getElem?_eq_getElem hil
    rw [hy] at this
    exact (Option.some.inj this).symm
  rw [this, hxy]
attribute [local go_sem ↓] toFl to26s toSlT toCopy toBs1 toAp to25s to25l
set_option maxRecDepth 100000 in
set_option maxHeartbeats 12800000 in
theorem guess_any (s : ByteArray) (hs : s.size ≤ 1073741000) (w : World) :
    Calls Tryz.prog 9 #[.string s] w (GuP s w) := by
  obtain ⟨W0, hW0⟩ : ∃ W0, (w.alloc (.cells #[.int .i64 0, .slice none 0 0, .bool false, .string ⟨#[]⟩, .int .i64 0, .int .u8 0, .int .u8 0, .int .u8 0, .int .u8 0, .int .u8 0, .int .u8 0, .int .u8 0, .int .u8 0, .int .u8 0, .int .u8 0, .int .u8 0, .int .u8 0, .int .u8 0, .int .u8 0, .int .u8 0, .int .u8 0, .int .u8 0, .int .u8 0, .int .u8 0, .int .u8 0, .int .u8 0, .int .u8 0, .int .u8 0, .int .u8 0, .int .u8 0, .int .u8 0, .int .u8 0, .int .u8 0, .int .u8 0, .int .u8 0, .int .u8 0, .int .u8 0, .string ⟨#[]⟩] 26)).alloc (.cells #[.int .i64 0, .slice none 0 0, .bool false, .string ⟨#[]⟩, .int .i64 0, .int .u8 0, .int .u8 0, .int .u8 0, .int .u8 0, .int .u8 0, .int .u8 0, .int .u8 0, .int .u8 0, .int .u8 0, .int .u8 0, .int .u8 0, .int .u8 0, .int .u8 0, .int .u8 0, .int .u8 0, .int .u8 0, .int .u8 0, .int .u8 0, .int .u8 0, .int .u8 0, .int .u8 0, .int .u8 0, .int .u8 0, .int .u8 0, .int .u8 0, .int .u8 0, .int .u8 0, .int .u8 0, .int .u8 0, .int .u8 0, .int .u8 0, .int .u8 0, .string ⟨#[]⟩] 26) = W0 := ⟨_, rfl⟩
  have b0 : Below w.heap.size w W0 := by rw [← hW0]; exact ((Below.refl _ w).alloc (Nat.le_refl _) _).alloc (by simp) _
  have r0 : W0.heap[w.heap.size]? = some (.cells zF 26 (0, 0)) := by rw [← hW0, zF_lit]; exact (heap_alloc_old _ _ (h := by simp)).trans (heap_alloc_new _ _)
  have r1 : W0.heap[w.heap.size + 1]? = some (.cells zF 26 (0, 0)) := by
    rw [← hW0, zF_lit]
    have := heap_alloc_new (w.alloc (.cells zF 26)) (.cells zF 26)
    rw [heap_size_alloc] at this
    exact this
  have z0 : W0.heap.size = w.heap.size + 2 := by rw [← hW0]; simp
  have CP := pieces_any s (by omega) W0
  unfold PcP at CP
  obtain ⟨P, hP⟩ : ∃ P, P = pcsA [] s.data.toList := ⟨_, rfl⟩
  have hPl := pcsA_len s.data.toList []
  have hPz := pcsA_sz s.data.toList []
  have hsL : s.data.toList.length = s.size := Array.length_toList
  rw [← hP] at CP hPl hPz
  have HP : Hid (P = pcsA [] (bl s)) := hP
  have CP' : Hid _ := CP
  have HS : Hid (s.size ≤ 1073741000) := hs
  have HPL : Hid (1 ≤ P.length ∧ P.length ≤ s.size + 1 ∧ ∀ q ∈ P, q.length ≤ s.size) := ⟨hPl.1, by omega, fun q hq => by have := hPz q hq; simp only [List.length_nil] at this; omega⟩
  have H0 : Hid (Below w.heap.size w W0 ∧ W0.heap[w.heap.size]? = some (.cells zF 26 (0, 0)) ∧ W0.heap[w.heap.size + 1]? = some (.cells zF 26 (0, 0)) ∧ W0.heap.size = w.heap.size + 2) := ⟨b0, r0, r1, z0⟩
  have HW0 : Hid _ := hW0
  clear CP hPl hPz hsL hP hs hW0 b0 r0 r1 z0
  go_enter Tryz.func9, Tryz.ntmps9
  go_wp2_with fail
  rw [HW0.out]
  refine Calls.mono CP'.out ?_
  rintro e W1 ⟨b1, v, rfl, own⟩
  obtain ⟨gp, cap, hv, hc1, hc2, hgB, hgs, hcell⟩ := own_texts own HPL.out.1
  obtain ⟨n, hn⟩ : ∃ n, n = P.length := ⟨_, rfl⟩
  rw [← hn] at hv hc1
  subst hv
  have z0 := H0.out.2.2.2
  have G1 : Hid (∀ Q : List (List UInt8), (∀ i x, Q[i]? = some x → P[1 + i]? = some x) → Gst 0 (.slice none 0 0) false ⟨#[]⟩ 0 z32 ⟨#[]⟩ gp Q w W1) := fun Q hQ => ⟨(b1.block _ (by omega)).trans H0.out.2.1, (b1.block _ (by omega)).trans H0.out.2.2.1, by omega, hgs, fun i x hx => hcell _ _ (hQ i x hx), H0.out.1.trans (b1.mono (by omega))⟩
  have HC : Hid (∀ i x, P[i]? = some x → W1.cell? ⟨gp, i, none⟩ = some (.string (ofL x))) := hcell
  have HGP : Hid (w.heap.size + 1 < gp ∧ gp < W1.heap.size ∧ n ≤ cap ∧ n = P.length) := ⟨by omega, hgs, hc1, hn⟩
  clear CP' HW0 own b1 hcell hgB hgs hc1 hc2 z0 hn
  by_cases h5 : n < 5
  case pos =>
    have h5' : (n : Int) < 5 := by omega
    have HG : Hid (Gst 0 (.slice none 0 0) false ⟨#[]⟩ 0 z32 ⟨#[]⟩ gp [] w W1) := G1.out [] (fun i x hx => by cases hx)
    obtain ⟨ld, st, HF⟩ := gst_end HG.out rfl ⟨_, _, _, rfl⟩
    have HFIN : Hid (GuP s w (.returned (.tuple #[.agg (fgA 0 (.slice none 0 0) false ⟨#[]⟩ 0 z32 ⟨#[]⟩), .bool false])) (W1.setRow w.heap.size (fgA 0 (.slice none 0 0) false ⟨#[]⟩ 0 z32 ⟨#[]⟩))) := gst_fin (A := []) HG.out rfl z32_b (by omega) (by omega) (by have := HS.out; omega) (own_nil _ _) (Nat.zero_le _) (fun x hx => by cases hx) (fun F ok he => (sd_short ok he (by rw [← HP.out, ← HGP.out.2.2.2]; exact h5)).elim)
    obtain ⟨C, hC⟩ : ∃ C, C = fgA 0 (.slice none 0 0) false ⟨#[]⟩ 0 z32 ⟨#[]⟩ := ⟨_, rfl⟩
    rw [← hC] at ld st HF HFIN
    clear hC 
    go_wp2_with fail
    refine bodyPost_ret (results_F2 rfl _ _ w.heap.size C HF.out.1 rfl HF.out.2) rfl ?_; exact HFIN.out

  obtain ⟨p0, mid, pa, hx, pc, nm, hPe⟩ := split4 P (by have := HGP.out.2.2.2; omega)
  obtain ⟨m, hm⟩ : ∃ m, m = mid.length := ⟨_, rfl⟩
  have hnm : n = m + 5 := by rw [HGP.out.2.2.2, hPe, hm]; simp
  have e0 : P[0]? = some p0 := by rw [hPe]; rfl
  have eN : P[m + 4]? = some nm := by rw [hPe, hm]; simp
  have eH : P[m + 2]? = some hx := by rw [hPe, hm]; simp
  have eM : ∀ i x, mid[i]? = some x → P[1 + i]? = some x := fun i x hi => by
    have hl := (List.getElem?_eq_some_iff.1 hi).1
    rw [hPe, Nat.add_comm, List.getElem?_cons_succ, List.getElem?_append_left hl, hi]
  have HSD : Hid (∀ F : Fg, Ok F → sayT F = s → Sd F p0 mid hx nm) := fun F ok he => sd_of ok he (by rw [← HP.out, hPe])
  have HMZ : Hid (hx.length ≤ s.size ∧ ∀ q ∈ mid, q.length ≤ s.size) := ⟨HPL.out.2.2 hx (by rw [hPe]; simp), fun q hq => HPL.out.2.2 q (by rw [hPe]; simp [hq])⟩
  have HML : Hid (m = mid.length ∧ m ≤ s.size ∧ n = m + 5) := ⟨hm, by have := HPL.out.2.1; have := HGP.out.2.2.2; omega, hnm⟩
  obtain ⟨n1, hn1⟩ : ∃ n1, n1 = m + 4 := ⟨_, rfl⟩
  obtain ⟨n3, hn3⟩ : ∃ n3, n3 = m + 2 := ⟨_, rfl⟩
  obtain ⟨n4, hn4⟩ : ∃ n4, n4 = m + 1 := ⟨_, rfl⟩
  obtain ⟨Tn, hTn⟩ : ∃ T, T = ofL nm := ⟨_, rfl⟩
  obtain ⟨Th, hTh⟩ : ∃ T, T = ofL hx := ⟨_, rfl⟩
  obtain ⟨T0, hT0⟩ : ∃ T, T = ofL p0 := ⟨_, rfl⟩
  have hsz := HS.out
  have hml := HML.out.2.1
  have p1 : IntKind.i64.wrap ((n : Int) - 1) = (n1 : Int) := by rw [IntKind.wrap_i64]; omega
  have p3 : IntKind.i64.wrap ((n : Int) - 3) = (n3 : Int) := by rw [IntKind.wrap_i64]; omega
  have p4 : IntKind.i64.wrap ((n : Int) - 4) = (n4 : Int) := by rw [IntKind.wrap_i64]; omega
  have i1 : (n1 : Int) < (n : Int) := by omega
  have i2 : (0 : Int) ≤ (n1 : Int) := by omega
  have i3 : (n3 : Int) < (n : Int) := by omega
  have i4 : (0 : Int) ≤ (n3 : Int) := by omega
  have i5 : ¬ ((n : Int) < 5) := by omega
  have i6 : (0 : Int) < (n : Int) := by omega
  have cN : W1.cell? ⟨gp, n1, none⟩ = some (.string Tn) := by rw [hn1, hTn]; exact HC.out _ _ eN
  have HG1 : Hid (Gst 0 (.slice none 0 0) false ⟨#[]⟩ 0 z32 ⟨#[]⟩ gp mid w W1) := G1.out mid eM
  have c37 : W1.cell? ⟨w.heap.size + 1, 37, none⟩ = some (.string ⟨#[]⟩) := fgA_c37 rfl HG1.out.row
  have f37 : W1.frozen? ⟨w.heap.size + 1, 37, none⟩ = false := frozen_of_row _ _ _ _ _ HG1.out.row
  have hne : gp ≠ w.heap.size + 1 := by have := HGP.out.1; omega
  obtain ⟨W2, hW2⟩ : ∃ W, W1.setCell ⟨w.heap.size + 1, 37, none⟩ (.string Tn) = W := ⟨_, rfl⟩
  have HG2 : Hid (Gst 0 (.slice none 0 0) false ⟨#[]⟩ 0 z32 Tn gp mid w W2) := by
    rw [← hW2]
    refine HG1.out.put _ _ ?_
    rw [← fgA_set37 0 (.slice none 0 0) false ⟨#[]⟩ 0 z32 ⟨#[]⟩ Tn rfl]
    exact heap_setCell_same _ _ _ _ _ _ HG1.out.row
  have HC2 : Hid (∀ i x, P[i]? = some x → W2.cell? ⟨gp, i, none⟩ = some (.string (ofL x))) := fun i x hi => by
    rw [← hW2]
    exact (World.cell?_of_block (w := W1) (heap_setCell_other _ _ _ _ hne)).trans (HC.out i x hi)
  have cH : (W1.setCell ⟨w.heap.size + 1, 37, none⟩ (.string Tn)).cell? ⟨gp, n3, none⟩ = some (.string Th) := by rw [hW2, hn3, hTh]; exact HC2.out _ _ eH
  have CU0 := Hx.unhexR_any Th (by rw [hTh, ofL_size]; have := HMZ.out.1; omega) W2
  obtain ⟨E, hE⟩ : ∃ E, E = Hx.hexE (Hx.tl Th) := ⟨_, rfl⟩
  obtain ⟨sm, hsm⟩ : ∃ sm, sm = Hx.hexV (Hx.tl Th) := ⟨_, rfl⟩
  rw [← hE, ← hsm] at CU0
  have CU : Hid _ := CU0
  have HSM : Hid (E.1 = 0 → Byt sm) := fun h => by rw [hsm]; exact Hx.hexV_byt (by rw [← hE]; exact h)
  have HSX : Hid (∀ F : Fg, Ok F → sayT F = s → E.1 = 0 ∧ sm = F.sm ∧ Tn = F.nm) := fun F ok he => by
    have h1 := sd_sm (HSD.out F ok he)
    rw [← hTh, ← hE, ← hsm] at h1
    exact ⟨by rw [h1.1], h1.2, by rw [hTn]; exact sd_nm (HSD.out F ok he)⟩
  have HT0 : Hid (T0 = ofL p0 ∧ P[0]? = some p0) := ⟨hT0, e0⟩
  have HN4 : Hid (n4 = m + 1) := hn4
  have HW2 : Hid _ := hW2
  clear hE hsm CU0 hTn hTh hT0 hW2 e0 eN eH eM hPe hm hnm hn1 hn3 hn4 HC G1 hne HG1 h5 hsz hml
  go_wp2_with fail
  rw [HW2.out]
  refine Calls.mono CU.out ?_
  rintro e W3 ⟨b3, v2, rfl, hif⟩
  have HG3 : Hid (Gst 0 (.slice none 0 0) false ⟨#[]⟩ 0 z32 Tn gp mid w W3) := HG2.out.below b3
  obtain ⟨E1, hE1⟩ : ∃ E1, E1 = E.1 := ⟨_, rfl⟩
  obtain ⟨E2, hE2⟩ : ∃ E2, E2 = E.2 := ⟨_, rfl⟩
  rw [← hE1] at hif HSM HSX
  rw [← hE1, ← hE2]
  clear hE1 hE2 CU HW2 cN cH c37 f37
  by_cases hE0 : E1 = 0
  case neg =>
    rw [if_neg hE0] at hif
    subst hif
    have hE0' : ¬ ((E1 : Int) = 0) := by omega
    have HEE : Hid (¬ E1 = 0) := hE0
    obtain ⟨ld, st, HF⟩ := gst_end HG3.out rfl ⟨_, _, _, rfl⟩
    have HFIN : Hid (GuP s w (.returned (.tuple #[.agg (fgA 0 (.slice none 0 0) false ⟨#[]⟩ 0 z32 Tn), .bool false])) (W3.setRow w.heap.size (fgA 0 (.slice none 0 0) false ⟨#[]⟩ 0 z32 Tn))) := gst_fin (A := []) HG3.out rfl z32_b (by omega) (by omega) (by have := HS.out; omega) (own_nil _ _) (Nat.zero_le _) (fun x hx => by cases hx) (fun F ok he => (HEE.out (HSX.out F ok he).1).elim)
    obtain ⟨C, hC⟩ : ∃ C, C = fgA 0 (.slice none 0 0) false ⟨#[]⟩ 0 z32 Tn := ⟨_, rfl⟩
    rw [← hC] at ld st HF HFIN
    clear hC hE0 b3 HG2 HG3
    go_wp2_with fail
    refine bodyPost_ret (results_F2 rfl _ _ w.heap.size C HF.out.1 rfl HF.out.2) rfl ?_; exact HFIN.out

  rw [if_pos hE0] at hif
  obtain ⟨l2, hl2⟩ : ∃ l, l = sm.length := ⟨_, rfl⟩
  have hby := HSM.out hE0
  subst hE0
  have hform : ∃ q c, v2 = .slice q l2 c := by
    rcases (byl_own hif).1 with ⟨h1, h2⟩ | ⟨gs, off, cap2, h1, -⟩
    · exact ⟨none, 0, by rw [h1, hl2, h2]; rfl⟩
    · exact ⟨_, cap2, by rw [h1, hl2]⟩
  by_cases h32 : l2 = 32
  case neg =>
    obtain ⟨q2, cq2, hv2⟩ := hform
    subst hv2
    have h32' : ¬ ((l2 : Int) = 32) := by omega
    have HEE : Hid (¬ l2 = 32 ∧ l2 = sm.length) := ⟨h32, hl2⟩
    obtain ⟨ld, st, HF⟩ := gst_end HG3.out rfl ⟨_, _, _, rfl⟩
    have HFIN : Hid (GuP s w (.returned (.tuple #[.agg (fgA 0 (.slice none 0 0) false ⟨#[]⟩ 0 z32 Tn), .bool false])) (W3.setRow w.heap.size (fgA 0 (.slice none 0 0) false ⟨#[]⟩ 0 z32 Tn))) := gst_fin (A := []) HG3.out rfl z32_b (by omega) (by omega) (by have := HS.out; omega) (own_nil _ _) (Nat.zero_le _) (fun x hx => by cases hx) (fun F ok he => (HEE.out.1 (by rw [HEE.out.2, (HSX.out F ok he).2.1]; exact F.hl)).elim)
    obtain ⟨C, hC⟩ : ∃ C, C = fgA 0 (.slice none 0 0) false ⟨#[]⟩ 0 z32 Tn := ⟨_, rfl⟩
    rw [← hC] at ld st HF HFIN
    clear hC h32 hl2 hif b3 HG2 HG3 hby
    go_wp2_with fail
    refine bodyPost_ret (results_F2 rfl _ _ w.heap.size C HF.out.1 rfl HF.out.2) rfl ?_; exact HFIN.out

  subst h32
  rcases (byl_own hif).1 with ⟨-, hnil⟩ | ⟨gs, off, cap2, hv2, -, -, -, hcs⟩
  · rw [hnil] at hl2
    cases hl2
  rw [← hl2] at hv2
  subst hv2
  have cp := fun ty => run_copyF W3 ty (w.heap.size + 1) gs off cap2 0 (.slice none 0 0) false ⟨#[]⟩ 0 z32 sm Tn rfl hl2.symm HG3.out.row hcs
  obtain ⟨W4, hW4⟩ : ∃ W, W = W3.setRow (w.heap.size + 1) (fgA 0 (.slice none 0 0) false ⟨#[]⟩ 0 sm Tn) := ⟨_, rfl⟩
  simp only [← hW4] at cp
  have hne : gp ≠ w.heap.size + 1 := by have := HGP.out.1; omega
  have HG4 : Hid (Gst 0 (.slice none 0 0) false ⟨#[]⟩ 0 sm Tn gp mid w W4) := by
    rw [hW4]
    exact ⟨(setRow_other _ _ _ _ (by omega)).trans HG3.out.res, setRow_heap _ _ _ _ _ _ HG3.out.row, HG3.out.gl, by simpa using HG3.out.gh, fun i x hi => (World.cell?_of_block (w := W3) (setRow_other _ _ _ _ hne)).trans (HG3.out.tq i x hi), below_setRow HG3.out.bel (by omega) _⟩
  have c0 : W4.cell? ⟨gp, 0, none⟩ = some (.string T0) := by
    rw [hW4, HT0.out.1]
    exact (World.cell?_of_block (w := W3) (setRow_other _ _ _ _ hne)).trans ((World.cell?_of_block (w := W2) (b3.block gp HG2.out.gh)).trans (HC2.out _ _ HT0.out.2))
  obtain ⟨c1, hc1⟩ : ∃ c, c = cap - 1 := ⟨_, rfl⟩
  have cT : ∀ X, (slTR (.slice (some ⟨gp, 0, none⟩) n cap) (some (.int .i64 1)) (some (.int .i64 (n4 : Int))) none).run Tryz.prog X = .ok (.slice (some ⟨gp, 1, none⟩) m c1) X := fun X => by
    have hh := HML.out.2.2
    have h4 := HN4.out
    have hcp := HGP.out.2.2.1
    rw [run_cutT X gp n cap n4 (by omega) (by omega) (by omega), hc1, h4]
    rfl
  have HLB : Hid (sm.length = 32 ∧ Byt sm) := ⟨hl2.symm, hby⟩
  have HCC : Hid (c1 = cap - 1) := hc1
  have q0 := (fgA_cells HG4.out.row).1
  have f0 : W4.frozen? ⟨w.heap.size + 1, 0, none⟩ = false := frozen_of_row _ _ _ _ _ HG4.out.row
  obtain ⟨hNM, hhNM⟩ : ∃ N, N = Tn := ⟨_, rfl⟩
  clear hW4 hne hl2 hby hif hcs HG2 HG3 b3 HC2 hc1 HN4 hhNM hNM
  by_cases k3 : (T0.toList == [111, 117, 116, 112, 117, 116]) = true
  case pos =>
    have HK : Hid (∀ F : Fg, Ok F → sayT F = s → F.k = 3) := fun F ok he => kw_k ok (HSD.out F ok he) 3 (by omega) (by rw [← HT0.out.1, kwb3]; exact k3)
    have HMD : Hid (∀ F : Fg, Ok F → sayT F = s → mid = [bl F.out] ∧ F.L = [] ∧ F.self = false ∧ F.ix = 0) := fun F ok he => sd_out ok (HSD.out F ok he) (HK.out F ok he)
    have HG5 : Hid (Gst 3 (.slice none 0 0) false ⟨#[]⟩ 0 sm Tn gp mid w (W4.setCell ⟨w.heap.size + 1, 0, none⟩ (.int .i64 3))) := HG4.out.setK 3
    by_cases hm1 : m = 1
    case neg =>
      have hm1' : ¬ ((m : Int) = 1) := by omega
      have HEE : Hid (¬ m = 1) := hm1
      obtain ⟨ld, st, HF⟩ := gst_end HG5.out HLB.out.1 ⟨_, _, _, rfl⟩
      have HFIN : Hid (GuP s w (.returned (.tuple #[.agg (fgA 3 (.slice none 0 0) false ⟨#[]⟩ 0 sm Tn), .bool false])) ((W4.setCell ⟨w.heap.size + 1, 0, none⟩ (.int .i64 3)).setRow w.heap.size (fgA 3 (.slice none 0 0) false ⟨#[]⟩ 0 sm Tn))) := gst_fin (A := []) HG5.out HLB.out.1 HLB.out.2 (by omega) (by omega) (by have := HS.out; omega) (own_nil _ _) (Nat.zero_le _) (fun x hx => by cases hx) (fun F ok he => (HEE.out (by rw [HML.out.1, (HMD.out F ok he).1]; rfl)).elim)
      obtain ⟨C, hC⟩ : ∃ C, C = fgA 3 (.slice none 0 0) false ⟨#[]⟩ 0 sm Tn := ⟨_, rfl⟩
      rw [← hC] at ld st HF HFIN
      clear hC hm1
      go_wp2_with fail
      refine bodyPost_ret (results_F2 rfl _ _ w.heap.size C HF.out.1 rfl HF.out.2) rfl ?_; exact HFIN.out

    subst hm1
    obtain ⟨q, hq⟩ : ∃ q, mid = [q] := List.length_eq_one_iff.1 HML.out.1.symm
    obtain ⟨Tq, hTq⟩ : ∃ T, T = ofL q := ⟨_, rfl⟩
    have cq : (W4.setCell ⟨w.heap.size + 1, 0, none⟩ (.int .i64 3)).cell? ⟨gp, 1, none⟩ = some (.string Tq) := by rw [hTq]; exact HG5.out.tq 0 q (by rw [hq]; rfl)
    have q3 := (fgA_cells HG5.out.row).2.2.2.1
    have f3 : (W4.setCell ⟨w.heap.size + 1, 0, none⟩ (.int .i64 3)).frozen? ⟨w.heap.size + 1, 3, none⟩ = false := frozen_of_row _ _ _ _ _ HG5.out.row
    have HG6 : Hid (Gst 3 (.slice none 0 0) false Tq 0 sm Tn gp mid w ((W4.setCell ⟨w.heap.size + 1, 0, none⟩ (.int .i64 3)).setCell ⟨w.heap.size + 1, 3, none⟩ (.string Tq))) := HG5.out.setO Tq
    have HTQ : Hid (Tq = ofL q ∧ mid = [q]) := ⟨hTq, hq⟩
    clear hTq hq HG5
    obtain ⟨ld, st, HF⟩ := gst_end HG6.out HLB.out.1 ⟨_, _, _, rfl⟩
    have HFIN : Hid (GuP s w (.returned (.tuple #[.agg (fgA 3 (.slice none 0 0) false Tq 0 sm Tn), .bool true])) (((W4.setCell ⟨w.heap.size + 1, 0, none⟩ (.int .i64 3)).setCell ⟨w.heap.size + 1, 3, none⟩ (.string Tq)).setRow w.heap.size (fgA 3 (.slice none 0 0) false Tq 0 sm Tn))) := gst_fin (A := []) HG6.out HLB.out.1 HLB.out.2 (by omega) (by omega) (by have := HS.out; omega) (own_nil _ _) (Nat.zero_le _) (fun x hx => by cases hx) (fun F ok he => have h1 := HMD.out F ok he; ⟨rfl, (HK.out F ok he).symm, by rw [h1.2.1, dd_none], h1.2.2.1.symm, by rw [HTQ.out.1]; have h2 := h1.1; rw [HTQ.out.2] at h2; rw [(List.cons.inj h2).1]; rfl, h1.2.2.2.symm, (HSX.out F ok he).2.1, (HSX.out F ok he).2.2⟩)
    obtain ⟨C, hC⟩ : ∃ C, C = fgA 3 (.slice none 0 0) false Tq 0 sm Tn := ⟨_, rfl⟩
    rw [← hC] at ld st HF HFIN
    clear hC 
    go_wp2_with fail
    refine bodyPost_ret (results_F2 rfl _ _ w.heap.size C HF.out.1 rfl HF.out.2) rfl ?_; exact HFIN.out

  replace k3 : (T0.toList == [111, 117, 116, 112, 117, 116]) = false := by simpa using k3
  by_cases k4 : (T0.toList == [109, 101, 109, 98, 101, 114]) = true
  case pos =>
    have HK : Hid (∀ F : Fg, Ok F → sayT F = s → F.k = 4) := fun F ok he => kw_k ok (HSD.out F ok he) 4 (by omega) (by rw [← HT0.out.1, kwb4]; exact k4)
    have HMD : Hid (∀ F : Fg, Ok F → sayT F = s → mid = [bl (itoaT F.ix.toNat)] ∧ F.L = [] ∧ F.self = false ∧ F.out = ⟨#[]⟩ ∧ 0 ≤ F.ix ∧ F.ix < 64) := fun F ok he => sd_mem ok (HSD.out F ok he) (HK.out F ok he)
    have HG5 : Hid (Gst 4 (.slice none 0 0) false ⟨#[]⟩ 0 sm Tn gp mid w (W4.setCell ⟨w.heap.size + 1, 0, none⟩ (.int .i64 4))) := HG4.out.setK 4
    by_cases hm1 : m = 1
    case neg =>
      have hm1' : ¬ ((m : Int) = 1) := by omega
      have HEE : Hid (¬ m = 1) := hm1
      obtain ⟨ld, st, HF⟩ := gst_end HG5.out HLB.out.1 ⟨_, _, _, rfl⟩
      have HFIN : Hid (GuP s w (.returned (.tuple #[.agg (fgA 4 (.slice none 0 0) false ⟨#[]⟩ 0 sm Tn), .bool false])) ((W4.setCell ⟨w.heap.size + 1, 0, none⟩ (.int .i64 4)).setRow w.heap.size (fgA 4 (.slice none 0 0) false ⟨#[]⟩ 0 sm Tn))) := gst_fin (A := []) HG5.out HLB.out.1 HLB.out.2 (by omega) (by omega) (by have := HS.out; omega) (own_nil _ _) (Nat.zero_le _) (fun x hx => by cases hx) (fun F ok he => (HEE.out (by rw [HML.out.1, (HMD.out F ok he).1]; rfl)).elim)
      obtain ⟨C, hC⟩ : ∃ C, C = fgA 4 (.slice none 0 0) false ⟨#[]⟩ 0 sm Tn := ⟨_, rfl⟩
      rw [← hC] at ld st HF HFIN
      clear hC hm1
      go_wp2_with fail
      refine bodyPost_ret (results_F2 rfl _ _ w.heap.size C HF.out.1 rfl HF.out.2) rfl ?_; exact HFIN.out

    subst hm1
    obtain ⟨q, hq⟩ : ∃ q, mid = [q] := List.length_eq_one_iff.1 HML.out.1.symm
    obtain ⟨Tq, hTq⟩ : ∃ T, T = ofL q := ⟨_, rfl⟩
    have hTz : Tq.size = q.length := by rw [hTq, ofL_size]
    have cq : (W4.setCell ⟨w.heap.size + 1, 0, none⟩ (.int .i64 4)).cell? ⟨gp, 1, none⟩ = some (.string Tq) := by rw [hTq]; exact HG5.out.tq 0 q (by rw [hq]; rfl)
    by_cases hz2 : 2 < Tq.size
    case pos =>
      have hz2' : (2 : Int) < (Tq.size : Int) := by omega
      have HEE : Hid (2 < q.length ∧ mid = [q]) := ⟨by omega, hq⟩
      obtain ⟨ld, st, HF⟩ := gst_end HG5.out HLB.out.1 ⟨_, _, _, rfl⟩
      have HFIN : Hid (GuP s w (.returned (.tuple #[.agg (fgA 4 (.slice none 0 0) false ⟨#[]⟩ 0 sm Tn), .bool false])) ((W4.setCell ⟨w.heap.size + 1, 0, none⟩ (.int .i64 4)).setRow w.heap.size (fgA 4 (.slice none 0 0) false ⟨#[]⟩ 0 sm Tn))) := gst_fin (A := []) HG5.out HLB.out.1 HLB.out.2 (by omega) (by omega) (by have := HS.out; omega) (own_nil _ _) (Nat.zero_le _) (fun x hx => by cases hx) (fun F ok he => by have h1 := (HMD.out F ok he); have h2 := HEE.out.2; rw [h1.1] at h2; have h3 := (ixV_itoa F.ix.toNat (by omega)).2; rw [(List.cons.inj h2).1] at h3; have := HEE.out.1; omega)
      obtain ⟨C, hC⟩ : ∃ C, C = fgA 4 (.slice none 0 0) false ⟨#[]⟩ 0 sm Tn := ⟨_, rfl⟩
      rw [← hC] at ld st HF HFIN
      clear hC hz2 hTz hTq hq
      go_wp2_with fail
      refine bodyPost_ret (results_F2 rfl _ _ w.heap.size C HF.out.1 rfl HF.out.2) rfl ?_; exact HFIN.out

    have hz2' : ¬ ((2 : Int) < (Tq.size : Int)) := by omega
    have HTQ : Hid (Tq = ofL q ∧ mid = [q] ∧ Tq.size = q.length ∧ q.length ≤ 2) := ⟨hTq, hq, hTz, by omega⟩
    clear hTq hq hTz hz2
    go_wp2_with fail
    clear cq
    go_loopw [11] (fun iv wr => ∃ (i : Nat) (ix : Int), iv = .int .i64 (i : Int) ∧ i ≤ Tq.size ∧ Hid (ix = ixV (q.take i)) ∧ ((i = 0 ∧ ix = 0) ∨ (i = 1 ∧ -48 ≤ ix ∧ ix ≤ 207) ∨ (i = 2 ∧ -528 ≤ ix ∧ ix ≤ 2277)) ∧ Hid (Gst 4 (.slice none 0 0) false ⟨#[]⟩ ix sm Tn gp mid w wr)) (fun iv _ => Tq.size - (intOf iv).toNat)
    case atStart => exact ⟨0, 0, rfl, Nat.zero_le _, rfl, .inl ⟨rfl, rfl⟩, HG5⟩
    case round =>
      obtain ⟨i, ix, rfl, hi, HIX, hib, HG⟩ := hrel
      have cq : wr.cell? ⟨gp, 1, none⟩ = some (.string Tq) := by rw [HTQ.out.1]; exact HG.out.tq 0 q (by rw [HTQ.out.2.1]; rfl)
      by_cases hlt : i < Tq.size
      · have hlt' : (i : Int) < (Tq.size : Int) := by omega
        obtain ⟨b, hb⟩ : ∃ b, b = byt Tq i := ⟨_, rfl⟩
        have hb256 : b < 256 := by rw [hb]; exact byt_lt _ _
        have ixx := fun (W : World) => idx9 W Tq i hlt
        rw [← hb] at ixx
        obtain ⟨ix2, hix2⟩ : ∃ x, x = 10 * ix + (b : Int) - 48 := ⟨_, rfl⟩
        obtain ⟨ixa, hixa⟩ : ∃ x, x = 10 * ix := ⟨_, rfl⟩
        obtain ⟨ixb, hixb⟩ : ∃ x, x = ixa + (b : Int) := ⟨_, rfl⟩
        have hq2 := HTQ.out.2.2
        have w1 : IntKind.i64.wrap (10 * ix) = ixa := by rw [IntKind.wrap_i64]; omega
        have w2 : IntKind.i64.wrap (ixa + (b : Int)) = ixb := by rw [IntKind.wrap_i64]; omega
        have w3 : IntKind.i64.wrap (ixb - 48) = ix2 := by rw [IntKind.wrap_i64]; omega
        have w4 : IntKind.i64.wrap (b : Int) = (b : Int) := by rw [IntKind.wrap_i64]; omega
        have HIX2 : Hid (ix2 = ixV (q.take (i + 1))) := by
          show _ = _
          have hil : i < q.length := by omega
          have hbq : b = (q[i]).toNat := by
            rw [hb, ← byt_at Tq i hlt]
            simp only [HTQ.out.1]
            rfl
          rw [List.take_succ_eq_append_getElem hil, ixV, List.foldl_append]
          show _ = 10 * ixV (q.take i) + ((q[i]).toNat : Int) - 48
          rw [← HIX.out, ← hbq, hix2]
        have HB2 : Hid ((i + 1 = 0 ∧ ix2 = 0) ∨ (i + 1 = 1 ∧ -48 ≤ ix2 ∧ ix2 ≤ 207) ∨ (i + 1 = 2 ∧ -528 ≤ ix2 ∧ ix2 ≤ 2277)) := by show _ ∨ _; omega
        have cq' : wr.drew.cell? ⟨gp, 1, none⟩ = some (.string Tq) := cq
        have q4 : wr.drew.cell? ⟨w.heap.size + 1, 4, none⟩ = some (.int .i64 ix) := (fgA_cells HG.out.row).2.2.2.2
        have f4 : wr.drew.frozen? ⟨w.heap.size + 1, 4, none⟩ = false := frozen_of_row _ _ _ _ _ HG.out.row
        have HG' : Hid (Gst 4 (.slice none 0 0) false ⟨#[]⟩ ix2 sm Tn gp mid w (wr.drew.setCell ⟨w.heap.size + 1, 4, none⟩ (.int .i64 ix2))) := (HG.out.below ⟨rfl, rfl, rfl, Nat.le_refl _, fun _ _ => rfl⟩ : Gst _ _ _ _ _ _ _ _ _ w wr.drew).setI ix2
        clear hb hix2 hixa hixb hq2 HIX HG hib
        go_wp2_with fail
        go_region
        clear q4 f4 cq'
        go_wp2_with fail
        go_roundw
        case rel => exact ⟨i + 1, ix2, by go_num, by omega, HIX2, HB2.out, HG'⟩
        case measure => simp [intOf]; omega
      · obtain rfl : i = Tq.size := by omega
        have HIB : Hid (-1000000 ≤ ix ∧ ix ≤ 1000000) := by show _ ∧ _; omega
        clear hib
        obtain ⟨ld, st, HF⟩ := gst_end HG.out HLB.out.1 ⟨_, _, _, rfl⟩
        have HFIN : Hid (GuP s w (.returned (.tuple #[.agg (fgA 4 (.slice none 0 0) false ⟨#[]⟩ ix sm Tn), .bool true])) (wr.setRow w.heap.size (fgA 4 (.slice none 0 0) false ⟨#[]⟩ ix sm Tn))) := gst_fin (A := []) HG.out HLB.out.1 HLB.out.2 (by omega) HIB.out (by have := HS.out; omega) (own_nil _ _) (Nat.zero_le _) (fun x hx => by cases hx) (fun F ok he => by have h1 := HMD.out F ok he; have h2 := h1.1; rw [HTQ.out.2.1] at h2; have h3 := (ixV_itoa F.ix.toNat (by omega)).1; rw [← (List.cons.inj h2).1] at h3; exact ⟨rfl, (HK.out F ok he).symm, by rw [h1.2.1, dd_none], h1.2.2.1.symm, h1.2.2.2.1.symm, by rw [HIX.out, HTQ.out.2.2.1, List.take_length, h3]; omega, (HSX.out F ok he).2.1, (HSX.out F ok he).2.2⟩)
        obtain ⟨C, hC⟩ : ∃ C, C = fgA 4 (.slice none 0 0) false ⟨#[]⟩ ix sm Tn := ⟨_, rfl⟩
        rw [← hC] at ld st HF HFIN
        clear hC HG
        go_wp2_with fail
        refine bodyPost_ret (results_F2 rfl _ _ w.heap.size C HF.out.1 rfl HF.out.2) rfl ?_; exact HFIN.out

  replace k4 : (T0.toList == [109, 101, 109, 98, 101, 114]) = false := by simpa using k4
  obtain ⟨nm2, hnm'⟩ : ∃ n, Tn = ofL n := ⟨bl Tn, (ofL_bl Tn).symm⟩
  rw [hnm'] at HG4 HSX
  clear hnm'
  by_cases k1 : (T0.toList == [116, 101, 120, 116]) = true
  case pos =>
    have HK : Hid (∀ F : Fg, Ok F → sayT F = s → F.k = 1) := fun F ok he => kw_k ok (HSD.out F ok he) 1 (by omega) (by rw [← HT0.out.1, kwb1]; exact k1)
    obtain ⟨Q, hQ⟩ : ∃ Q, Q = mid := ⟨_, rfl⟩
    obtain ⟨q, hq⟩ : ∃ q, q = m := ⟨_, rfl⟩
    have HQ : Hid (Q.length = q ∧ q ≤ s.size) := ⟨by rw [hQ, hq]; exact HML.out.1.symm, by rw [hq]; exact HML.out.2.1⟩
    have HGL : Hid (Gst 1 (.slice none 0 0) false ⟨#[]⟩ 0 sm (ofL nm2) gp Q w (W4.setCell ⟨w.heap.size + 1, 0, none⟩ (.int .i64 1))) := by rw [hQ]; exact HG4.out.setK 1
    have HEQ : Hid (∀ F : Fg, Ok F → sayT F = s → 1 = F.k ∧ false = F.self ∧ ⟨#[]⟩ = F.out ∧ 0 = F.ix ∧ sm = F.sm ∧ ofL nm2 = F.nm ∧ Q = (dd (srt F.L)).map prT) := fun F ok he => by
      rw [hQ]
      exact sd_txt ok (HSD.out F ok he) (HK.out F ok he) (HSX.out F ok he).2
    rw [← hq] at cT
    clear hQ hq HG4 HK
    go_wp2_with fail
    go_loopw [12] (fun iv wr => ∃ (i : Nat) (A : List Lb) (v : Value), iv = .int .i64 (i : Int) ∧ i ≤ q ∧ A.length = i ∧ Hid (Gst 1 v false ⟨#[]⟩ 0 sm (ofL nm2) gp Q w wr) ∧ Hid (wr.ownsRow (gp + 1) 51 21 v A.length (cells A)) ∧ Hid (∀ x ∈ A, Byt x.h) ∧ Hid (∀ M : List Lb, (∀ x ∈ M, okN x.s = 0 ∧ Byt x.h) → Q = M.map prT → A = M.take i)) (fun iv _ => q - (intOf iv).toNat)
    case atStart => exact ⟨0, [], .slice none 0 0, rfl, Nat.zero_le _, rfl, HGL, own_nil _ _, (fun x hx => by cases hx), (fun M _ _ => by simp)⟩
    case round =>
      obtain ⟨i, A, v, rfl, hiq, hAl, HG, HOW, HAB, HEX⟩ := hrel
      obtain ⟨oo, cc, hv, -, -⟩ := (own_Ls HOW.out).form
      rw [hAl] at hv
      subst hv
      by_cases hlt : i < q
      · have hlt' : (i : Int) < (q : Int) := by omega
        obtain ⟨t, ht⟩ : ∃ t, Q[i]? = some t := ⟨Q[i]'(by have := HQ.out.1; omega), List.getElem?_eq_getElem _⟩
        obtain ⟨T, hT⟩ : ∃ T, T = ofL t := ⟨_, rfl⟩
        have ct : wr.cell? ⟨gp, 1 + i, none⟩ = some (.string T) := by rw [hT]; exact HG.out.tq i t ht
        obtain ⟨x, E, F', hxb, h3⟩ := pa_weak T
        have CP : Hid (Calls Tryz.prog 20 #[.string T] wr fun e w' => e = .returned (.tuple #[.agg (lab x.h x.s), .int .i64 (E : Int), .int .i64 (F' : Int)]) ∧ Below wr.heap.size wr w') := by
          have := paR_any T wr
          rw [h3] at this
          exact this
        have HOK : Hid (∀ M : List Lb, (∀ x ∈ M, okN x.s = 0 ∧ Byt x.h) → Q = M.map prT → E = 0 ∧ M.take (i + 1) = M.take i ++ [x]) := fun M hM hQ => par_ok hT h3 ht M hM hQ
        have HAL : Hid (A.length = i) := hAl
        have HXB : Hid (Byt x.h) := hxb
        clear hT h3 ht hAl hxb
        go_wp2_with fail
        refine Calls.mono CP.out ?_
        rintro e W2 ⟨rfl, b2⟩
        obtain ⟨W3, s3, r3, b3⟩ := layL W2 x.h x.s x.hl
        have HG3 : Hid (Gst 1 (.slice oo i cc) false ⟨#[]⟩ 0 sm (ofL nm2) gp Q w W3) := (HG.out.below b2).below b3
        have HO3 : Hid (W3.ownsRow (gp + 1) 51 21 (.slice oo i cc) A.length (cells A)) := own_belowG (own_belowG HOW.out b2) b3
        by_cases hE : (E : Int) = 0
        case neg =>
          obtain ⟨ld, st, HF⟩ := gst_end HG3.out HLB.out.1 ⟨_, _, _, rfl⟩
          have HFIN : Hid (GuP s w (.returned (.tuple #[.agg (fgA 1 (.slice oo i cc) false ⟨#[]⟩ 0 sm (ofL nm2)), .bool false])) (W3.setRow w.heap.size (fgA 1 (.slice oo i cc) false ⟨#[]⟩ 0 sm (ofL nm2)))) := gst_fin HG3.out HLB.out.1 HLB.out.2 (by omega) (by omega) (by have := HS.out; omega) (own_down HO3.out (by have := HG3.out.gl; omega)) (by rw [HAL.out]; have := HQ.out.2; omega) HAB.out (fun F ok he => by
            have h1 := (HEQ.out F ok he).2.2.2.2.2.2
            have h2 := HOK.out _ (fun x hx => ⟨((dd_ok ok).2 x hx).1, ((dd_ok ok).2 x hx).2.2⟩) h1
            exact absurd (by rw [h2.1]; rfl) hE)
          obtain ⟨C, hC⟩ : ∃ C, C = fgA 1 (.slice oo i cc) false ⟨#[]⟩ 0 sm (ofL nm2) := ⟨_, rfl⟩
          rw [← hC] at ld st HF HFIN
          clear hC CP b2 b3 r3 HG HG3 HO3 HOW ct
          go_wp2_with fail
          refine bodyPost_ret (results_F2 rfl _ _ w.heap.size C HF.out.1 rfl HF.out.2) rfl ?_; exact HFIN.out
        obtain rfl : E = 0 := by omega
        have l3 := run_loadR25 W3 W2.heap.size x.h x.s r3 x.hl
        have z3 : gp + 1 ≤ W3.heap.size := HG3.out.gh
        have zg := HG3.out.gl
        obtain ⟨u, W4, a1, a2, o4, b4⟩ := step_one HO3.out z3 (by rw [HAL.out]; have := HQ.out.2; have := HS.out; omega) x
        obtain ⟨q0, q1, q2, q3, q4⟩ := fgA_cells HG3.out.row
        have hgl : w.heap.size + 1 < W3.heap.size := by omega
        have row4 : W4.heap[w.heap.size + 1]? = some (.cells (fgA 1 (.slice oo i cc) false ⟨#[]⟩ 0 sm (ofL nm2)) 26 (0, 0)) := (b4.block _ (by omega)).trans HG3.out.row
        have f4 : W4.frozen? ⟨w.heap.size + 1, 1, none⟩ = false := frozen_of_row _ _ _ _ _ row4
        have c4 : W4.cell? ⟨w.heap.size + 1, 1, none⟩ = some (.slice oo i cc) := (fgA_cells row4).2.1
        have lm : (A ++ [x]).length = A.length + 1 := by rw [List.length_append]; rfl
        have HG4 : Hid (Gst 1 (.slice oo i cc) false ⟨#[]⟩ 0 sm (ofL nm2) gp Q w W4) := ⟨(b4.block _ (by omega)).trans HG3.out.res, row4, HG3.out.gl, Nat.lt_of_lt_of_le HG3.out.gh b4.size, (fun i x hx => (World.cell?_of_block (w := W3) (b4.block gp (by omega))).trans (HG3.out.tq i x hx)), HG3.out.bel.trans (b4.mono (by omega))⟩
        obtain ⟨o3, c3, hu, -, -⟩ := (own_Ls o4).form
        rw [lm, HAL.out] at hu
        subst hu
        have HG5 : Hid (Gst 1 (.slice o3 (i + 1) c3) false ⟨#[]⟩ 0 sm (ofL nm2) gp Q w (W4.setCell ⟨w.heap.size + 1, 1, none⟩ (.slice o3 (i + 1) c3))) := HG4.out.setV _
        have HO5 : Hid ((W4.setCell ⟨w.heap.size + 1, 1, none⟩ (.slice o3 (i + 1) c3)).ownsRow (gp + 1) 51 21 (.slice o3 (i + 1) c3) (A ++ [x]).length (cells (A ++ [x]))) := by
          show World.ownsRow _ _ _ _ _ _ _
          rw [lm]
          exact own_far o4 (by omega)
        have HB5 : Hid (∀ y ∈ A ++ [x], Byt y.h) := fun y hy => by
          rcases List.mem_append.1 hy with h | h
          · exact HAB.out y h
          · rw [List.mem_singleton.1 h]; exact HXB.out
        have HE5 : Hid (∀ M : List Lb, (∀ x ∈ M, okN x.s = 0 ∧ Byt x.h) → Q = M.map prT → A ++ [x] = M.take (i + 1)) := fun M hM hQ => by
          rw [(HOK.out M hM hQ).2, ← HEX.out M hM hQ]
        have HL5 : Hid ((A ++ [x]).length = i + 1) := by show _ = _; rw [lm, HAL.out]
        have hk1 : IntKind.i64.wrap ((i : Int) + 1) = (i : Int) + 1 := by have := HQ.out.2; have := HS.out; rw [IntKind.wrap_i64]; omega
        clear CP b2 b3 b4 HG HG3 HG4 HO3 HOW r3 q0 q2 q3 q4 o4 row4 z3 zg lm hgl ct HAB HEX HOK HXB hE
        go_wp2_with fail
        go_roundw
        case rel => exact ⟨i + 1, A ++ [x], _, by go_num, by omega, HL5.out, HG5, HO5, HB5, HE5⟩
        case measure => simp [intOf]; omega
      · obtain rfl : i = q := by omega
        obtain ⟨ld, st, HF⟩ := gst_end HG.out HLB.out.1 ⟨_, _, _, rfl⟩
        have HFIN : Hid (GuP s w (.returned (.tuple #[.agg (fgA 1 (.slice oo i cc) false ⟨#[]⟩ 0 sm (ofL nm2)), .bool true])) (wr.setRow w.heap.size (fgA 1 (.slice oo i cc) false ⟨#[]⟩ 0 sm (ofL nm2)))) := gst_fin HG.out HLB.out.1 HLB.out.2 (by omega) (by omega) (by have := HS.out; omega) (own_down HOW.out (by have := HG.out.gl; omega)) (by rw [hAl]; have := HQ.out.2; omega) HAB.out (fun F ok he => by
          obtain ⟨e1, e2, e3, e4, e5, e6, e7⟩ := HEQ.out F ok he
          have h2 := HEX.out _ (fun x hx => ⟨((dd_ok ok).2 x hx).1, ((dd_ok ok).2 x hx).2.2⟩) e7
          have h3 : i = (dd (srt F.L)).length := by rw [← HQ.out.1, e7, List.length_map]
          rw [h3, List.take_length] at h2
          exact ⟨rfl, e1, h2, e2, e3, e4, e5, e6⟩)
        obtain ⟨C, hC⟩ : ∃ C, C = fgA 1 (.slice oo i cc) false ⟨#[]⟩ 0 sm (ofL nm2) := ⟨_, rfl⟩
        rw [← hC] at ld st HF HFIN
        clear hC HG HOW
        go_wp2_with fail
        refine bodyPost_ret (results_F2 rfl _ _ w.heap.size C HF.out.1 rfl HF.out.2) rfl ?_; exact HFIN.out

  replace k1 : (T0.toList == [116, 101, 120, 116]) = false := by simpa using k1
  by_cases k2 : (T0.toList == [115, 111, 117, 114, 99, 101]) = true
  case neg =>
    replace k2 : (T0.toList == [115, 111, 117, 114, 99, 101]) = false := by simpa using k2
    obtain ⟨ld, st, HF⟩ := gst_end HG4.out HLB.out.1 ⟨_, _, _, rfl⟩
    have HFIN : Hid (GuP s w (.returned (.tuple #[.agg (fgA 0 (.slice none 0 0) false ⟨#[]⟩ 0 sm (ofL nm2)), .bool false])) (W4.setRow w.heap.size (fgA 0 (.slice none 0 0) false ⟨#[]⟩ 0 sm (ofL nm2)))) := gst_fin (A := []) HG4.out HLB.out.1 HLB.out.2 (by omega) (by omega) (by have := HS.out; omega) (own_nil _ _) (Nat.zero_le _) (fun x hx => by cases hx) (fun F ok he => by have hd := HSD.out F ok he; have n1 := kw_n hd 1 (by rw [← HT0.out.1, kwb1]; exact k1); have n2 := kw_n hd 2 (by rw [← HT0.out.1, kwb2]; exact k2); have n3 := kw_n hd 3 (by rw [← HT0.out.1, kwb3]; exact k3); have n4 := kw_n hd 4 (by rw [← HT0.out.1, kwb4]; exact k4); have := ok.k1; have := ok.k4; omega)
    obtain ⟨C, hC⟩ : ∃ C, C = fgA 0 (.slice none 0 0) false ⟨#[]⟩ 0 sm (ofL nm2) := ⟨_, rfl⟩
    rw [← hC] at ld st HF HFIN
    clear hC 
    go_wp2_with fail
    refine bodyPost_ret (results_F2 rfl _ _ w.heap.size C HF.out.1 rfl HF.out.2) rfl ?_; exact HFIN.out

  have HK : Hid (∀ F : Fg, Ok F → sayT F = s → F.k = 2) := fun F ok he => kw_k ok (HSD.out F ok he) 2 (by omega) (by rw [← HT0.out.1, kwb2]; exact k2)
  have HSR : Hid (∀ F : Fg, Ok F → sayT F = s → 2 = F.k ∧ ⟨#[]⟩ = F.out ∧ 0 = F.ix ∧ sm = F.sm ∧ ofL nm2 = F.nm ∧ mid = (dd (srt F.L)).map prT ++ (if F.self then [bl selfW] else [])) := fun F ok he => sd_src ok (HSD.out F ok he) (HK.out F ok he) (HSX.out F ok he).2
  have HG5 : Hid (Gst 2 (.slice none 0 0) false ⟨#[]⟩ 0 sm (ofL nm2) gp mid w (W4.setCell ⟨w.heap.size + 1, 0, none⟩ (.int .i64 2))) := HG4.out.setK 2
  clear HG4 HK
  by_cases hm0 : m = 0
  case pos =>
    obtain ⟨Q, hQ⟩ : ∃ Q, Q = mid := ⟨_, rfl⟩
    obtain ⟨q, hq⟩ : ∃ q : Nat, q = m := ⟨_, rfl⟩
    have hmn : mid = [] := List.length_eq_zero_iff.1 (by rw [← HML.out.1, hm0])
    have HQ : Hid (Q.length = q ∧ q ≤ s.size) := ⟨by rw [hQ, hq]; exact HML.out.1.symm, by omega⟩
    have HGL : Hid (Gst 2 (.slice none 0 0) false ⟨#[]⟩ 0 sm (ofL nm2) gp Q w (W4.setCell ⟨w.heap.size + 1, 0, none⟩ (.int .i64 2))) := by rw [hQ]; exact HG5.out
    have HEQ : Hid (∀ F : Fg, Ok F → sayT F = s → 2 = F.k ∧ false = F.self ∧ ⟨#[]⟩ = F.out ∧ 0 = F.ix ∧ sm = F.sm ∧ ofL nm2 = F.nm ∧ Q = (dd (srt F.L)).map prT) := fun F ok he => by
      obtain ⟨e1, e2, e3, e4, e5, e6⟩ := HSR.out F ok he
      obtain ⟨s1, s2⟩ := src_no e6 (.inl hmn)
      rw [hQ]
      exact ⟨e1, s1.symm, e2, e3, e4, e5, s2⟩
    rw [← hq] at cT
    have hq0 : ¬ ((0 : Int) < (q : Int)) := by omega
    clear hQ hq HG5 hmn hm0
    go_wp2_with fail
    go_loopw [12] (fun iv wr => ∃ (i : Nat) (A : List Lb) (v : Value), iv = .int .i64 (i : Int) ∧ i ≤ q ∧ A.length = i ∧ Hid (Gst 2 v false ⟨#[]⟩ 0 sm (ofL nm2) gp Q w wr) ∧ Hid (wr.ownsRow (gp + 1) 51 21 v A.length (cells A)) ∧ Hid (∀ x ∈ A, Byt x.h) ∧ Hid (∀ M : List Lb, (∀ x ∈ M, okN x.s = 0 ∧ Byt x.h) → Q = M.map prT → A = M.take i)) (fun iv _ => q - (intOf iv).toNat)
    case atStart => exact ⟨0, [], .slice none 0 0, rfl, Nat.zero_le _, rfl, HGL, own_nil _ _, (fun x hx => by cases hx), (fun M _ _ => by simp)⟩
    case round =>
      obtain ⟨i, A, v, rfl, hiq, hAl, HG, HOW, HAB, HEX⟩ := hrel
      obtain ⟨oo, cc, hv, -, -⟩ := (own_Ls HOW.out).form
      rw [hAl] at hv
      subst hv
      by_cases hlt : i < q
      · exfalso; omega
      · obtain rfl : i = q := by omega
        obtain ⟨ld, st, HF⟩ := gst_end HG.out HLB.out.1 ⟨_, _, _, rfl⟩
        have HFIN : Hid (GuP s w (.returned (.tuple #[.agg (fgA 2 (.slice oo i cc) false ⟨#[]⟩ 0 sm (ofL nm2)), .bool true])) (wr.setRow w.heap.size (fgA 2 (.slice oo i cc) false ⟨#[]⟩ 0 sm (ofL nm2)))) := gst_fin HG.out HLB.out.1 HLB.out.2 (by omega) (by omega) (by have := HS.out; omega) (own_down HOW.out (by have := HG.out.gl; omega)) (by rw [hAl]; have := HQ.out.2; omega) HAB.out (fun F ok he => by
          obtain ⟨e1, e2, e3, e4, e5, e6, e7⟩ := HEQ.out F ok he
          have h2 := HEX.out _ (fun x hx => ⟨((dd_ok ok).2 x hx).1, ((dd_ok ok).2 x hx).2.2⟩) e7
          have h3 : i = (dd (srt F.L)).length := by rw [← HQ.out.1, e7, List.length_map]
          rw [h3, List.take_length] at h2
          exact ⟨rfl, e1, h2, e2, e3, e4, e5, e6⟩)
        obtain ⟨C, hC⟩ : ∃ C, C = fgA 2 (.slice oo i cc) false ⟨#[]⟩ 0 sm (ofL nm2) := ⟨_, rfl⟩
        rw [← hC] at ld st HF HFIN
        clear hC HG HOW
        go_wp2_with fail
        refine bodyPost_ret (results_F2 rfl _ _ w.heap.size C HF.out.1 rfl HF.out.2) rfl ?_; exact HFIN.out

  have hmp : (0 : Int) < (m : Int) := by omega
  obtain ⟨m1, hm1⟩ : ∃ m1, m = m1 + 1 := ⟨m - 1, by omega⟩
  obtain ⟨qs, hqs⟩ : ∃ q, mid[m1]? = some q := ⟨mid[m1]'(by have := HML.out.1; omega), List.getElem?_eq_getElem _⟩
  obtain ⟨Ts, hTs⟩ : ∃ T, T = ofL qs := ⟨_, rfl⟩
  have cs : (W4.setCell ⟨w.heap.size + 1, 0, none⟩ (.int .i64 2)).cell? ⟨gp, 1 + m1, none⟩ = some (.string Ts) := by rw [hTs]; exact HG5.out.tq m1 qs hqs
  have pm : IntKind.i64.wrap ((m : Int) - 1) = (m1 : Int) := by have := HML.out.2.1; have := HS.out; rw [IntKind.wrap_i64]; omega
  have im1 : (m1 : Int) < (m : Int) := by omega
  have im2 : (0 : Int) ≤ (m1 : Int) := by omega
  have HLS : Hid (mid[m1]? = some qs ∧ Ts = ofL qs ∧ m = m1 + 1 ∧ m = mid.length ∧ m ≤ s.size) := ⟨hqs, hTs, hm1, HML.out.1, HML.out.2.1⟩
  clear hm0 hqs hTs hm1
  by_cases ks : (Ts.toList == [115, 101, 108, 102]) = true
  case pos =>
    obtain ⟨Q, hQ⟩ : ∃ Q, Q = mid.take m1 := ⟨_, rfl⟩
    obtain ⟨q, hq⟩ : ∃ q, q = m1 := ⟨_, rfl⟩
    have HQ : Hid (Q.length = q ∧ q ≤ s.size) := by
      have h1 := HLS.out
      exact ⟨by rw [hQ, List.length_take, hq]; omega, by omega⟩
    have q2 := (fgA_cells HG5.out.row).2.2.1
    have f2 : (W4.setCell ⟨w.heap.size + 1, 0, none⟩ (.int .i64 2)).frozen? ⟨w.heap.size + 1, 2, none⟩ = false := frozen_of_row _ _ _ _ _ HG5.out.row
    have HGL : Hid (Gst 2 (.slice none 0 0) true ⟨#[]⟩ 0 sm (ofL nm2) gp Q w ((W4.setCell ⟨w.heap.size + 1, 0, none⟩ (.int .i64 2)).setCell ⟨w.heap.size + 1, 2, none⟩ (.bool true))) := by
      rw [hQ]
      exact (HG5.out.setS true).sub (fun i x hx => by
        rw [List.getElem?_take] at hx
        split at hx
        · exact hx
        · cases hx)
    have HEQ : Hid (∀ F : Fg, Ok F → sayT F = s → 2 = F.k ∧ true = F.self ∧ ⟨#[]⟩ = F.out ∧ 0 = F.ix ∧ sm = F.sm ∧ ofL nm2 = F.nm ∧ Q = (dd (srt F.L)).map prT) := fun F ok he => by
      obtain ⟨e1, e2, e3, e4, e5, e6⟩ := HSR.out F ok he
      obtain ⟨s1, s2⟩ := src_yes e6 HLS.out.1 (by have := HLS.out; omega) (by rw [← HLS.out.2.1]; exact ks)
      rw [hQ]
      exact ⟨e1, s1.symm, e2, e3, e4, e5, s2⟩
    have cS : ∀ X, (slTR (.slice (some ⟨gp, 1, none⟩) m c1) none (some (.int .i64 (m1 : Int))) none).run Tryz.prog X = .ok (.slice (some ⟨gp, 1, none⟩) q c1) X := fun X => by
      have h1 := HLS.out
      have h2 := HCC.out
      have h3 := HGP.out.2.2.1
      have h4 := HML.out.2.2
      rw [hq]
      exact run_cutTh X gp m c1 m1 (by omega)
    clear hQ hq HG5
    go_wp2_with fail
    go_loopw [12] (fun iv wr => ∃ (i : Nat) (A : List Lb) (v : Value), iv = .int .i64 (i : Int) ∧ i ≤ q ∧ A.length = i ∧ Hid (Gst 2 v true ⟨#[]⟩ 0 sm (ofL nm2) gp Q w wr) ∧ Hid (wr.ownsRow (gp + 1) 51 21 v A.length (cells A)) ∧ Hid (∀ x ∈ A, Byt x.h) ∧ Hid (∀ M : List Lb, (∀ x ∈ M, okN x.s = 0 ∧ Byt x.h) → Q = M.map prT → A = M.take i)) (fun iv _ => q - (intOf iv).toNat)
    case atStart => exact ⟨0, [], .slice none 0 0, rfl, Nat.zero_le _, rfl, HGL, own_nil _ _, (fun x hx => by cases hx), (fun M _ _ => by simp)⟩
    case round =>
      obtain ⟨i, A, v, rfl, hiq, hAl, HG, HOW, HAB, HEX⟩ := hrel
      obtain ⟨oo, cc, hv, -, -⟩ := (own_Ls HOW.out).form
      rw [hAl] at hv
      subst hv
      by_cases hlt : i < q
      · have hlt' : (i : Int) < (q : Int) := by omega
        obtain ⟨t, ht⟩ : ∃ t, Q[i]? = some t := ⟨Q[i]'(by have := HQ.out.1; omega), List.getElem?_eq_getElem _⟩
        obtain ⟨T, hT⟩ : ∃ T, T = ofL t := ⟨_, rfl⟩
        have ct : wr.cell? ⟨gp, 1 + i, none⟩ = some (.string T) := by rw [hT]; exact HG.out.tq i t ht
        obtain ⟨x, E, F', hxb, h3⟩ := pa_weak T
        have CP : Hid (Calls Tryz.prog 20 #[.string T] wr fun e w' => e = .returned (.tuple #[.agg (lab x.h x.s), .int .i64 (E : Int), .int .i64 (F' : Int)]) ∧ Below wr.heap.size wr w') := by
          have := paR_any T wr
          rw [h3] at this
          exact this
        have HOK : Hid (∀ M : List Lb, (∀ x ∈ M, okN x.s = 0 ∧ Byt x.h) → Q = M.map prT → E = 0 ∧ M.take (i + 1) = M.take i ++ [x]) := fun M hM hQ => par_ok hT h3 ht M hM hQ
        have HAL : Hid (A.length = i) := hAl
        have HXB : Hid (Byt x.h) := hxb
        clear hT h3 ht hAl hxb
        go_wp2_with fail
        refine Calls.mono CP.out ?_
        rintro e W2 ⟨rfl, b2⟩
        obtain ⟨W3, s3, r3, b3⟩ := layL W2 x.h x.s x.hl
        have HG3 : Hid (Gst 2 (.slice oo i cc) true ⟨#[]⟩ 0 sm (ofL nm2) gp Q w W3) := (HG.out.below b2).below b3
        have HO3 : Hid (W3.ownsRow (gp + 1) 51 21 (.slice oo i cc) A.length (cells A)) := own_belowG (own_belowG HOW.out b2) b3
        by_cases hE : (E : Int) = 0
        case neg =>
          obtain ⟨ld, st, HF⟩ := gst_end HG3.out HLB.out.1 ⟨_, _, _, rfl⟩
          have HFIN : Hid (GuP s w (.returned (.tuple #[.agg (fgA 2 (.slice oo i cc) true ⟨#[]⟩ 0 sm (ofL nm2)), .bool false])) (W3.setRow w.heap.size (fgA 2 (.slice oo i cc) true ⟨#[]⟩ 0 sm (ofL nm2)))) := gst_fin HG3.out HLB.out.1 HLB.out.2 (by omega) (by omega) (by have := HS.out; omega) (own_down HO3.out (by have := HG3.out.gl; omega)) (by rw [HAL.out]; have := HQ.out.2; omega) HAB.out (fun F ok he => by
            have h1 := (HEQ.out F ok he).2.2.2.2.2.2
            have h2 := HOK.out _ (fun x hx => ⟨((dd_ok ok).2 x hx).1, ((dd_ok ok).2 x hx).2.2⟩) h1
            exact absurd (by rw [h2.1]; rfl) hE)
          obtain ⟨C, hC⟩ : ∃ C, C = fgA 2 (.slice oo i cc) true ⟨#[]⟩ 0 sm (ofL nm2) := ⟨_, rfl⟩
          rw [← hC] at ld st HF HFIN
          clear hC CP b2 b3 r3 HG HG3 HO3 HOW ct
          go_wp2_with fail
          refine bodyPost_ret (results_F2 rfl _ _ w.heap.size C HF.out.1 rfl HF.out.2) rfl ?_; exact HFIN.out
        obtain rfl : E = 0 := by omega
        have l3 := run_loadR25 W3 W2.heap.size x.h x.s r3 x.hl
        have z3 : gp + 1 ≤ W3.heap.size := HG3.out.gh
        have zg := HG3.out.gl
        obtain ⟨u, W4, a1, a2, o4, b4⟩ := step_one HO3.out z3 (by rw [HAL.out]; have := HQ.out.2; have := HS.out; omega) x
        obtain ⟨q0, q1, q2, q3, q4⟩ := fgA_cells HG3.out.row
        have hgl : w.heap.size + 1 < W3.heap.size := by omega
        have row4 : W4.heap[w.heap.size + 1]? = some (.cells (fgA 2 (.slice oo i cc) true ⟨#[]⟩ 0 sm (ofL nm2)) 26 (0, 0)) := (b4.block _ (by omega)).trans HG3.out.row
        have f4 : W4.frozen? ⟨w.heap.size + 1, 1, none⟩ = false := frozen_of_row _ _ _ _ _ row4
        have c4 : W4.cell? ⟨w.heap.size + 1, 1, none⟩ = some (.slice oo i cc) := (fgA_cells row4).2.1
        have lm : (A ++ [x]).length = A.length + 1 := by rw [List.length_append]; rfl
        have HG4 : Hid (Gst 2 (.slice oo i cc) true ⟨#[]⟩ 0 sm (ofL nm2) gp Q w W4) := ⟨(b4.block _ (by omega)).trans HG3.out.res, row4, HG3.out.gl, Nat.lt_of_lt_of_le HG3.out.gh b4.size, (fun i x hx => (World.cell?_of_block (w := W3) (b4.block gp (by omega))).trans (HG3.out.tq i x hx)), HG3.out.bel.trans (b4.mono (by omega))⟩
        obtain ⟨o3, c3, hu, -, -⟩ := (own_Ls o4).form
        rw [lm, HAL.out] at hu
        subst hu
        have HG5 : Hid (Gst 2 (.slice o3 (i + 1) c3) true ⟨#[]⟩ 0 sm (ofL nm2) gp Q w (W4.setCell ⟨w.heap.size + 1, 1, none⟩ (.slice o3 (i + 1) c3))) := HG4.out.setV _
        have HO5 : Hid ((W4.setCell ⟨w.heap.size + 1, 1, none⟩ (.slice o3 (i + 1) c3)).ownsRow (gp + 1) 51 21 (.slice o3 (i + 1) c3) (A ++ [x]).length (cells (A ++ [x]))) := by
          show World.ownsRow _ _ _ _ _ _ _
          rw [lm]
          exact own_far o4 (by omega)
        have HB5 : Hid (∀ y ∈ A ++ [x], Byt y.h) := fun y hy => by
          rcases List.mem_append.1 hy with h | h
          · exact HAB.out y h
          · rw [List.mem_singleton.1 h]; exact HXB.out
        have HE5 : Hid (∀ M : List Lb, (∀ x ∈ M, okN x.s = 0 ∧ Byt x.h) → Q = M.map prT → A ++ [x] = M.take (i + 1)) := fun M hM hQ => by
          rw [(HOK.out M hM hQ).2, ← HEX.out M hM hQ]
        have HL5 : Hid ((A ++ [x]).length = i + 1) := by show _ = _; rw [lm, HAL.out]
        have hk1 : IntKind.i64.wrap ((i : Int) + 1) = (i : Int) + 1 := by have := HQ.out.2; have := HS.out; rw [IntKind.wrap_i64]; omega
        clear CP b2 b3 b4 HG HG3 HG4 HO3 HOW r3 q0 q2 q3 q4 o4 row4 z3 zg lm hgl ct HAB HEX HOK HXB hE
        go_wp2_with fail
        go_roundw
        case rel => exact ⟨i + 1, A ++ [x], _, by go_num, by omega, HL5.out, HG5, HO5, HB5, HE5⟩
        case measure => simp [intOf]; omega
      · obtain rfl : i = q := by omega
        obtain ⟨ld, st, HF⟩ := gst_end HG.out HLB.out.1 ⟨_, _, _, rfl⟩
        have HFIN : Hid (GuP s w (.returned (.tuple #[.agg (fgA 2 (.slice oo i cc) true ⟨#[]⟩ 0 sm (ofL nm2)), .bool true])) (wr.setRow w.heap.size (fgA 2 (.slice oo i cc) true ⟨#[]⟩ 0 sm (ofL nm2)))) := gst_fin HG.out HLB.out.1 HLB.out.2 (by omega) (by omega) (by have := HS.out; omega) (own_down HOW.out (by have := HG.out.gl; omega)) (by rw [hAl]; have := HQ.out.2; omega) HAB.out (fun F ok he => by
          obtain ⟨e1, e2, e3, e4, e5, e6, e7⟩ := HEQ.out F ok he
          have h2 := HEX.out _ (fun x hx => ⟨((dd_ok ok).2 x hx).1, ((dd_ok ok).2 x hx).2.2⟩) e7
          have h3 : i = (dd (srt F.L)).length := by rw [← HQ.out.1, e7, List.length_map]
          rw [h3, List.take_length] at h2
          exact ⟨rfl, e1, h2, e2, e3, e4, e5, e6⟩)
        obtain ⟨C, hC⟩ : ∃ C, C = fgA 2 (.slice oo i cc) true ⟨#[]⟩ 0 sm (ofL nm2) := ⟨_, rfl⟩
        rw [← hC] at ld st HF HFIN
        clear hC HG HOW
        go_wp2_with fail
        refine bodyPost_ret (results_F2 rfl _ _ w.heap.size C HF.out.1 rfl HF.out.2) rfl ?_; exact HFIN.out

  replace ks : (Ts.toList == [115, 101, 108, 102]) = false := by simpa using ks
  obtain ⟨Q, hQ⟩ : ∃ Q, Q = mid := ⟨_, rfl⟩
  obtain ⟨q, hq⟩ : ∃ q, q = m := ⟨_, rfl⟩
  have HQ : Hid (Q.length = q ∧ q ≤ s.size) := ⟨by rw [hQ, hq]; exact HML.out.1.symm, by rw [hq]; exact HML.out.2.1⟩
  have HGL : Hid (Gst 2 (.slice none 0 0) false ⟨#[]⟩ 0 sm (ofL nm2) gp Q w (W4.setCell ⟨w.heap.size + 1, 0, none⟩ (.int .i64 2))) := by rw [hQ]; exact HG5.out
  have HEQ : Hid (∀ F : Fg, Ok F → sayT F = s → 2 = F.k ∧ false = F.self ∧ ⟨#[]⟩ = F.out ∧ 0 = F.ix ∧ sm = F.sm ∧ ofL nm2 = F.nm ∧ Q = (dd (srt F.L)).map prT) := fun F ok he => by
    obtain ⟨e1, e2, e3, e4, e5, e6⟩ := HSR.out F ok he
    obtain ⟨s1, s2⟩ := src_no e6 (.inr ⟨m1, qs, HLS.out.1, by have := HLS.out; omega, by rw [← HLS.out.2.1]; exact ks⟩)
    rw [hQ]
    exact ⟨e1, s1.symm, e2, e3, e4, e5, s2⟩
  rw [← hq] at cT hmp pm im1
  clear hQ hq HG5

  go_wp2_with fail
  go_loopw [12] (fun iv wr => ∃ (i : Nat) (A : List Lb) (v : Value), iv = .int .i64 (i : Int) ∧ i ≤ q ∧ A.length = i ∧ Hid (Gst 2 v false ⟨#[]⟩ 0 sm (ofL nm2) gp Q w wr) ∧ Hid (wr.ownsRow (gp + 1) 51 21 v A.length (cells A)) ∧ Hid (∀ x ∈ A, Byt x.h) ∧ Hid (∀ M : List Lb, (∀ x ∈ M, okN x.s = 0 ∧ Byt x.h) → Q = M.map prT → A = M.take i)) (fun iv _ => q - (intOf iv).toNat)
  case atStart => exact ⟨0, [], .slice none 0 0, rfl, Nat.zero_le _, rfl, HGL, own_nil _ _, (fun x hx => by cases hx), (fun M _ _ => by simp)⟩
  case round =>
    obtain ⟨i, A, v, rfl, hiq, hAl, HG, HOW, HAB, HEX⟩ := hrel
    obtain ⟨oo, cc, hv, -, -⟩ := (own_Ls HOW.out).form
    rw [hAl] at hv
    subst hv
    by_cases hlt : i < q
    · have hlt' : (i : Int) < (q : Int) := by omega
      obtain ⟨t, ht⟩ : ∃ t, Q[i]? = some t := ⟨Q[i]'(by have := HQ.out.1; omega), List.getElem?_eq_getElem _⟩
      obtain ⟨T, hT⟩ : ∃ T, T = ofL t := ⟨_, rfl⟩
      have ct : wr.cell? ⟨gp, 1 + i, none⟩ = some (.string T) := by rw [hT]; exact HG.out.tq i t ht
      obtain ⟨x, E, F', hxb, h3⟩ := pa_weak T
      have CP : Hid (Calls Tryz.prog 20 #[.string T] wr fun e w' => e = .returned (.tuple #[.agg (lab x.h x.s), .int .i64 (E : Int), .int .i64 (F' : Int)]) ∧ Below wr.heap.size wr w') := by
        have := paR_any T wr
        rw [h3] at this
        exact this
      have HOK : Hid (∀ M : List Lb, (∀ x ∈ M, okN x.s = 0 ∧ Byt x.h) → Q = M.map prT → E = 0 ∧ M.take (i + 1) = M.take i ++ [x]) := fun M hM hQ => par_ok hT h3 ht M hM hQ
      have HAL : Hid (A.length = i) := hAl
      have HXB : Hid (Byt x.h) := hxb
      clear hT h3 ht hAl hxb
      go_wp2_with fail
      refine Calls.mono CP.out ?_
      rintro e W2 ⟨rfl, b2⟩
      obtain ⟨W3, s3, r3, b3⟩ := layL W2 x.h x.s x.hl
      have HG3 : Hid (Gst 2 (.slice oo i cc) false ⟨#[]⟩ 0 sm (ofL nm2) gp Q w W3) := (HG.out.below b2).below b3
      have HO3 : Hid (W3.ownsRow (gp + 1) 51 21 (.slice oo i cc) A.length (cells A)) := own_belowG (own_belowG HOW.out b2) b3
      by_cases hE : (E : Int) = 0
      case neg =>
        obtain ⟨ld, st, HF⟩ := gst_end HG3.out HLB.out.1 ⟨_, _, _, rfl⟩
        have HFIN : Hid (GuP s w (.returned (.tuple #[.agg (fgA 2 (.slice oo i cc) false ⟨#[]⟩ 0 sm (ofL nm2)), .bool false])) (W3.setRow w.heap.size (fgA 2 (.slice oo i cc) false ⟨#[]⟩ 0 sm (ofL nm2)))) := gst_fin HG3.out HLB.out.1 HLB.out.2 (by omega) (by omega) (by have := HS.out; omega) (own_down HO3.out (by have := HG3.out.gl; omega)) (by rw [HAL.out]; have := HQ.out.2; omega) HAB.out (fun F ok he => by
          have h1 := (HEQ.out F ok he).2.2.2.2.2.2
          have h2 := HOK.out _ (fun x hx => ⟨((dd_ok ok).2 x hx).1, ((dd_ok ok).2 x hx).2.2⟩) h1
          exact absurd (by rw [h2.1]; rfl) hE)
        obtain ⟨C, hC⟩ : ∃ C, C = fgA 2 (.slice oo i cc) false ⟨#[]⟩ 0 sm (ofL nm2) := ⟨_, rfl⟩
        rw [← hC] at ld st HF HFIN
        clear hC CP b2 b3 r3 HG HG3 HO3 HOW ct
        go_wp2_with fail
        refine bodyPost_ret (results_F2 rfl _ _ w.heap.size C HF.out.1 rfl HF.out.2) rfl ?_; exact HFIN.out
      obtain rfl : E = 0 := by omega
      have l3 := run_loadR25 W3 W2.heap.size x.h x.s r3 x.hl
      have z3 : gp + 1 ≤ W3.heap.size := HG3.out.gh
      have zg := HG3.out.gl
      obtain ⟨u, W4, a1, a2, o4, b4⟩ := step_one HO3.out z3 (by rw [HAL.out]; have := HQ.out.2; have := HS.out; omega) x
      obtain ⟨q0, q1, q2, q3, q4⟩ := fgA_cells HG3.out.row
      have hgl : w.heap.size + 1 < W3.heap.size := by omega
      have row4 : W4.heap[w.heap.size + 1]? = some (.cells (fgA 2 (.slice oo i cc) false ⟨#[]⟩ 0 sm (ofL nm2)) 26 (0, 0)) := (b4.block _ (by omega)).trans HG3.out.row
      have f4 : W4.frozen? ⟨w.heap.size + 1, 1, none⟩ = false := frozen_of_row _ _ _ _ _ row4
      have c4 : W4.cell? ⟨w.heap.size + 1, 1, none⟩ = some (.slice oo i cc) := (fgA_cells row4).2.1
      have lm : (A ++ [x]).length = A.length + 1 := by rw [List.length_append]; rfl
      have HG4 : Hid (Gst 2 (.slice oo i cc) false ⟨#[]⟩ 0 sm (ofL nm2) gp Q w W4) := ⟨(b4.block _ (by omega)).trans HG3.out.res, row4, HG3.out.gl, Nat.lt_of_lt_of_le HG3.out.gh b4.size, (fun i x hx => (World.cell?_of_block (w := W3) (b4.block gp (by omega))).trans (HG3.out.tq i x hx)), HG3.out.bel.trans (b4.mono (by omega))⟩
      obtain ⟨o3, c3, hu, -, -⟩ := (own_Ls o4).form
      rw [lm, HAL.out] at hu
      subst hu
      have HG5 : Hid (Gst 2 (.slice o3 (i + 1) c3) false ⟨#[]⟩ 0 sm (ofL nm2) gp Q w (W4.setCell ⟨w.heap.size + 1, 1, none⟩ (.slice o3 (i + 1) c3))) := HG4.out.setV _
      have HO5 : Hid ((W4.setCell ⟨w.heap.size + 1, 1, none⟩ (.slice o3 (i + 1) c3)).ownsRow (gp + 1) 51 21 (.slice o3 (i + 1) c3) (A ++ [x]).length (cells (A ++ [x]))) := by
        show World.ownsRow _ _ _ _ _ _ _
        rw [lm]
        exact own_far o4 (by omega)
      have HB5 : Hid (∀ y ∈ A ++ [x], Byt y.h) := fun y hy => by
        rcases List.mem_append.1 hy with h | h
        · exact HAB.out y h
        · rw [List.mem_singleton.1 h]; exact HXB.out
      have HE5 : Hid (∀ M : List Lb, (∀ x ∈ M, okN x.s = 0 ∧ Byt x.h) → Q = M.map prT → A ++ [x] = M.take (i + 1)) := fun M hM hQ => by
        rw [(HOK.out M hM hQ).2, ← HEX.out M hM hQ]
      have HL5 : Hid ((A ++ [x]).length = i + 1) := by show _ = _; rw [lm, HAL.out]
      have hk1 : IntKind.i64.wrap ((i : Int) + 1) = (i : Int) + 1 := by have := HQ.out.2; have := HS.out; rw [IntKind.wrap_i64]; omega
      clear CP b2 b3 b4 HG HG3 HG4 HO3 HOW r3 q0 q2 q3 q4 o4 row4 z3 zg lm hgl ct HAB HEX HOK HXB hE
      go_wp2_with fail
      go_roundw
      case rel => exact ⟨i + 1, A ++ [x], _, by go_num, by omega, HL5.out, HG5, HO5, HB5, HE5⟩
      case measure => simp [intOf]; omega
    · obtain rfl : i = q := by omega
      obtain ⟨ld, st, HF⟩ := gst_end HG.out HLB.out.1 ⟨_, _, _, rfl⟩
      have HFIN : Hid (GuP s w (.returned (.tuple #[.agg (fgA 2 (.slice oo i cc) false ⟨#[]⟩ 0 sm (ofL nm2)), .bool true])) (wr.setRow w.heap.size (fgA 2 (.slice oo i cc) false ⟨#[]⟩ 0 sm (ofL nm2)))) := gst_fin HG.out HLB.out.1 HLB.out.2 (by omega) (by omega) (by have := HS.out; omega) (own_down HOW.out (by have := HG.out.gl; omega)) (by rw [hAl]; have := HQ.out.2; omega) HAB.out (fun F ok he => by
        obtain ⟨e1, e2, e3, e4, e5, e6, e7⟩ := HEQ.out F ok he
        have h2 := HEX.out _ (fun x hx => ⟨((dd_ok ok).2 x hx).1, ((dd_ok ok).2 x hx).2.2⟩) e7
        have h3 : i = (dd (srt F.L)).length := by rw [← HQ.out.1, e7, List.length_map]
        rw [h3, List.take_length] at h2
        exact ⟨rfl, e1, h2, e2, e3, e4, e5, e6⟩)
      obtain ⟨C, hC⟩ : ∃ C, C = fgA 2 (.slice oo i cc) false ⟨#[]⟩ 0 sm (ofL nm2) := ⟨_, rfl⟩
      rw [← hC] at ld st HF HFIN
      clear hC HG HOW
      go_wp2_with fail
      refine bodyPost_ret (results_F2 rfl _ _ w.heap.size C HF.out.1 rfl HF.out.2) rfl ?_; exact HFIN.out
end Go.Proofs.YtffghlbgbfhfdaaGreatDoor
