/- Output of any recipe, the code's. -/
import Derived.Test.YteajpimonenopaaGreatDoorLmX
namespace Go.Proofs.YteajpimonenopaaGreatDoor
open Go.RowKit Go.Shelf Go.Sort Go.Proofs.YteajpimonenopaaGreatDoor.Sha
set_option maxRecDepth 100000 in
theorem bt3o_x (a0 a1 a2 a3 a4 a5 a6 a7 a8 a9 a10 a11 a12 a13 a14 a15 a16 a17 a18 a19 a20 a21 a22 a23 a24 a25 a26 a27 a28 a29 a30 a31 : Nat) (o n : ByteArray) : Tryz.prog.built 44 [(0, .int .i64 3), (3, .string o), (5, .agg (bs [a0, a1, a2, a3, a4, a5, a6, a7, a8, a9, a10, a11, a12, a13, a14, a15, a16, a17, a18, a19, a20, a21, a22, a23, a24, a25, a26, a27, a28, a29, a30, a31])), (6, .string n)] = some (fcell 3 (.slice none 0 0) false o 0 [a0, a1, a2, a3, a4, a5, a6, a7, a8, a9, a10, a11, a12, a13, a14, a15, a16, a17, a18, a19, a20, a21, a22, a23, a24, a25, a26, a27, a28, a29, a30, a31] n) := by kernel_rfl
set_option maxRecDepth 100000 in
theorem bt3o (s : List Nat) (hl : s.length = 32) (o n : ByteArray) : Tryz.prog.built 44 [(0, .int .i64 3), (3, .string o), (5, .agg (bs s)), (6, .string n)] = some (fcell 3 (.slice none 0 0) false o 0 s n) := by
  match s, hl with
  | [a0, a1, a2, a3, a4, a5, a6, a7, a8, a9, a10, a11, a12, a13, a14, a15, a16, a17, a18, a19, a20, a21, a22, a23, a24, a25, a26, a27, a28, a29, a30, a31], _ => exact bt3o_x a0 a1 a2 a3 a4 a5 a6 a7 a8 a9 a10 a11 a12 a13 a14 a15 a16 a17 a18 a19 a20 a21 a22 a23 a24 a25 a26 a27 a28 a29 a30 a31 o n
theorem outN_l : outN.toList = [111, 117, 116] := by decide +kernel
/-- A finger of an output. -/
def fgP (o : ByteArray) (Z : List Nat) (hZ : Z.length = 32) (bZ : Byt Z) (n : ByteArray) : Fg := ⟨3, .slice none 0 0, [], false, o, 0, Z, n, hZ, bZ, by omega, by omega, by simp, fun x h => by simp at h⟩
/-- The name that comes of both. -/
def nmO (o n : ByteArray) : ByteArray := if o = outN then n else n ++ (minus ++ o)
def oOK (o n : ByteArray) : Bool := decide (okN n = 0) && decide (okN o = 0)
def oE (o n : ByteArray) (Z : List Nat) (hZ : Z.length = 32) (bZ : Byt Z) : Nat := if okN n = 0 then (if okN o = 0 then chkV (fgP o Z hZ bZ (nmO o n)) else okN o) else okN n
noncomputable def oH (o n : ByteArray) (Z : List Nat) (hZ : Z.length = 32) (bZ : Byt Z) : List Nat := if okN n = 0 then (if okN o = 0 then cH (fgP o Z hZ bZ (nmO o n)) else z20) else z20
noncomputable def oN (o n : ByteArray) (Z : List Nat) (hZ : Z.length = 32) (bZ : Byt Z) : ByteArray := if okN n = 0 then (if okN o = 0 then cN (fgP o Z hZ bZ (nmO o n)) else ⟨#[]⟩) else ⟨#[]⟩
theorem oH_len (o n : ByteArray) (Z : List Nat) (hZ : Z.length = 32) (bZ : Byt Z) : (oH o n Z hZ bZ).length = 20 := by
  unfold oH
  split
  · split
    · exact cH_len _
    · rfl
  · rfl
attribute [local go_sem ↓] to25s toBuild toBuildF toSuL
set_option maxRecDepth 100000 in
set_option maxHeartbeats 1000000 in
theorem output_c (o n : ByteArray) (Z : List Nat) (hZ : Z.length = 32) (bZ : Byt Z) (w : World) (hk : Tk w) (hx : Tx w) (ht : Tb w) :
    Calls Tryz.prog 12 #[.agg (bs Z), .string o, .string n] w fun e w' => e = .returned (.tuple #[.agg (lab (oH o n Z hZ bZ) (oN o n Z hZ bZ)), .int .i64 ((oE o n Z hZ bZ : Nat) : Int)]) ∧ Below w.heap.size w w' := by
  obtain ⟨W0, hW0⟩ : ∃ W0, (w.alloc (.cells (bs Z) 24)).alloc (.cells none25 30) = W0 := ⟨_, rfl⟩
  have b0 : Below w.heap.size w W0 := by rw [← hW0]; exact ((Below.refl _ w).alloc (Nat.le_refl _) _).alloc (by simp) _
  have H0 : Hid (Os Z w.heap.size (w.heap.size + 1) w W0) := ⟨b0, by rw [← hW0]; exact heap_alloc2_old _ _ _, by rw [← hW0]; exact heap_alloc2_new _ _ _⟩
  obtain ⟨E, hE⟩ : ∃ E, E = okN n := ⟨_, rfl⟩
  obtain ⟨E2, hE2⟩ : ∃ E, E = okN o := ⟨_, rfl⟩
  have C1 : Hid (∀ W, ∃ F : Nat, Calls Tryz.prog 24 #[.string n] W fun e w' => e = .returned (.tuple #[.int .i64 (E : Int), .int .i64 (F : Int)]) ∧ Below W.heap.size W w') := fun W => check_n n E hE W
  have C2 : Hid (∀ W, ∃ F : Nat, Calls Tryz.prog 24 #[.string o] W fun e w' => e = .returned (.tuple #[.int .i64 (E2 : Int), .int .i64 (F : Int)]) ∧ Below W.heap.size W w') := fun W => check_n o E2 hE2 W
  have HC : Hid (∀ (F : Fg) W, F.v = .slice none 0 0 → F.L = [] → Below w.heap.size w W → Calls Tryz.prog 17 #[.agg (fing F)] W fun e w' => e = .returned (.tuple #[.agg (lab (cH F) (cN F)), .int .i64 ((chkV F : Nat) : Int)]) ∧ Below W.heap.size W w') := fun F W hFv hFL hW => call_c F W (hk.below hW hk.sz) (hx.below hW hx.sz) (ht.below hW ht.sz) (by rw [hFv, hFL]; exact ls_nil W)
  have HW0 : Hid ((w.alloc (.cells (bs Z) 24)).alloc (.cells none25 30) = W0) := hW0
  have HE : Hid (E = okN n) := hE
  have HE2 : Hid (E2 = okN o) := hE2
  have hbu := run_build0
  clear hE hE2 hW0 b0 hk hx ht
  obtain ⟨F1, C1'⟩ := C1.out W0
  have HC1 : Hid _ := C1'
  clear C1'
  go_enter Tryz.func12, Tryz.ntmps12
  go_wp2_with fail
  show Calls _ _ _ ((w.alloc (.cells (bs Z) 24)).alloc (.cells none25 30)) _
  rw [HW0.out]
  refine Calls.mono HC1.out ?_
  rintro e W1 ⟨rfl, b1⟩
  have H1 : Hid (Os Z w.heap.size (w.heap.size + 1) w W1) := H0.out.below b1
  clear b1 H0 HC1
  by_cases h0 : E = 0
  · subst h0
    obtain ⟨F2, C2'⟩ := C2.out W1
    have HC2 : Hid _ := C2'
    clear C2'
    go_wp2_with fail
    refine Calls.mono HC2.out ?_
    rintro e W2 ⟨rfl, b2⟩
    have H2 : Hid (Os Z w.heap.size (w.heap.size + 1) w W2) := H1.out.below b2
    clear b2 H1 HC2
    by_cases h2 : E2 = 0
    · subst h2
      have hns : n.size ≤ 211 := okN_size n HE.out.symm
      have hos : o.size ≤ 211 := okN_size o HE2.out.symm
      obtain ⟨nm, hnm⟩ : ∃ nm, nmO o n = nm := ⟨_, rfl⟩
      obtain ⟨F, hF⟩ : ∃ F, F = fgP o Z hZ bZ nm := ⟨_, rfl⟩
      have C3 : Hid _ := HC.out F W2 (by rw [hF]; rfl) (by rw [hF]; rfl) H2.out.bel
      have ld := run_ldS W2 w.heap.size Z H2.out.sum hZ
      have hfing : fing F = fcell 3 (.slice none 0 0) false o 0 Z nm := by rw [hF]; rfl
      have hbf : ∀ W, (buildF #[(0, .int .i64 3), (3, .string o), (5, .agg (bs Z)), (6, .string nm)]).run Tryz.prog W = .ok (.agg (fing F)) W := fun W => by rw [hfing]; exact run_build W 44 _ _ (bt3o Z hZ o nm)
      have HV : Hid (oH o n Z hZ bZ = cH F ∧ oN o n Z hZ bZ = cN F ∧ oE o n Z hZ bZ = chkV F) := by
        refine ⟨?_, ?_, ?_⟩
        · unfold oH; rw [if_pos HE.out.symm, if_pos HE2.out.symm, hnm, hF]
        · unfold oN; rw [if_pos HE.out.symm, if_pos HE2.out.symm, hnm, hF]
        · unfold oE; rw [if_pos HE.out.symm, if_pos HE2.out.symm, hnm, hF]
      have HL : Hid ((cH F).length = 20) := cH_len F
      have hq := hnm
      unfold nmO at hq
      clear hfing hF hnm
      by_cases hqo : o = outN
      · have hl3 : o.toList = [111, 117, 116] := by rw [hqo]; exact outN_l
        rw [if_pos hqo] at hq
        clear hqo
        subst hq
        go_wp2_with fail
        refine Calls.mono C3.out ?_
        rintro e W3 ⟨rfl, b3⟩
        have H3 : Os Z w.heap.size (w.heap.size + 1) w W3 := H2.out.below b3
        have st := run_storeR25 W3 (w.heap.size + 1) z20 (cH F) ⟨#[]⟩ (cN F) H3.row rfl HL.out
        have HR : Hid ((W3.setRow (w.heap.size + 1) (lab (cH F) (cN F))).heap[w.heap.size + 1]? = some (.cells (lab (cH F) (cN F)) 30 (0, 0))) := setRow_heap _ _ _ _ _ _ H3.row
        have HB : Hid (Below w.heap.size w (W3.setRow (w.heap.size + 1) (lab (cH F) (cN F)))) := below_setRow H3.bel (Nat.le_succ _) _
        clear C3 b3 H3 ld hbf
        go_wp2_with fail
        rw [HV.out.1, HV.out.2.1, HV.out.2.2]
        exact bodyPost_ret (results_cell2 rfl _ _ (w.heap.size + 1) (cH F) (cN F) HL.out rfl HR.out) rfl ⟨rfl, HB.out⟩
      · have hl3 : ¬ (o.toList = [111, 117, 116]) := fun h => hqo (toList_inj.1 (h.trans outN_l.symm))
        have hl4 : (o.toList == [111, 117, 116]) = false := by simpa using hl3
        rw [if_neg hqo] at hq
        have he' : n ++ ((⟨#[45]⟩ : ByteArray) ++ o) = nm := hq
        have z1 : ¬ (9223372036854775807 < 1 + o.size) := by omega
        have z2 : ¬ (9223372036854775807 < n.size + ((⟨#[45]⟩ : ByteArray) ++ o).size) := by rw [app_size]; show ¬ (_ < n.size + (1 + o.size)); omega
        have z3 : ¬ (9223372036854775807 < n.size + (1 + o.size)) := by omega
        clear hqo hq
        go_wp2_with fail
        refine Calls.mono C3.out ?_
        rintro e W3 ⟨rfl, b3⟩
        have H3 : Os Z w.heap.size (w.heap.size + 1) w W3 := H2.out.below b3
        have st := run_storeR25 W3 (w.heap.size + 1) z20 (cH F) ⟨#[]⟩ (cN F) H3.row rfl HL.out
        have HR : Hid ((W3.setRow (w.heap.size + 1) (lab (cH F) (cN F))).heap[w.heap.size + 1]? = some (.cells (lab (cH F) (cN F)) 30 (0, 0))) := setRow_heap _ _ _ _ _ _ H3.row
        have HB : Hid (Below w.heap.size w (W3.setRow (w.heap.size + 1) (lab (cH F) (cN F)))) := below_setRow H3.bel (Nat.le_succ _) _
        clear C3 b3 H3 ld hbf
        go_wp2_with fail
        rw [HV.out.1, HV.out.2.1, HV.out.2.2]
        exact bodyPost_ret (results_cell2 rfl _ _ (w.heap.size + 1) (cH F) (cN F) HL.out rfl HR.out) rfl ⟨rfl, HB.out⟩
    · have h2' : ¬ ((E2 : Int) = 0) := by omega
      have HV : Hid (oH o n Z hZ bZ = z20 ∧ oN o n Z hZ bZ = ⟨#[]⟩ ∧ oE o n Z hZ bZ = E2) := by
        have q : ¬ okN o = 0 := by rw [← HE2.out]; exact h2
        refine ⟨?_, ?_, ?_⟩
        · unfold oH; rw [if_pos HE.out.symm, if_neg q]
        · unfold oN; rw [if_pos HE.out.symm, if_neg q]
        · unfold oE; rw [if_pos HE.out.symm, if_neg q, HE2.out]
      have st : (storeR 30 (.pointer (some ⟨w.heap.size + 1, 0, none⟩)) (.agg none25)).run Tryz.prog W2 = .ok () (W2.setRow (w.heap.size + 1) none25) := run_storeR25 W2 (w.heap.size + 1) z20 z20 ⟨#[]⟩ ⟨#[]⟩ H2.out.row rfl rfl
      have HR : Hid ((W2.setRow (w.heap.size + 1) none25).heap[w.heap.size + 1]? = some (.cells none25 30 (0, 0))) := setRow_heap _ _ _ _ _ _ H2.out.row
      have HB : Hid (Below w.heap.size w (W2.setRow (w.heap.size + 1) none25)) := below_setRow H2.out.bel (Nat.le_succ _) _
      go_wp2_with fail
      rw [HV.out.1, HV.out.2.1, HV.out.2.2]
      exact bodyPost_ret (results_cell2 rfl _ _ (w.heap.size + 1) z20 ⟨#[]⟩ rfl rfl HR.out) rfl ⟨rfl, HB.out⟩
  · have h0' : ¬ ((E : Int) = 0) := by omega
    have HV : Hid (oH o n Z hZ bZ = z20 ∧ oN o n Z hZ bZ = ⟨#[]⟩ ∧ oE o n Z hZ bZ = E) := by
      have q : ¬ okN n = 0 := by rw [← HE.out]; exact h0
      refine ⟨?_, ?_, ?_⟩
      · unfold oH; rw [if_neg q]
      · unfold oN; rw [if_neg q]
      · unfold oE; rw [if_neg q, HE.out]
    have st : (storeR 30 (.pointer (some ⟨w.heap.size + 1, 0, none⟩)) (.agg none25)).run Tryz.prog W1 = .ok () (W1.setRow (w.heap.size + 1) none25) := run_storeR25 W1 (w.heap.size + 1) z20 z20 ⟨#[]⟩ ⟨#[]⟩ H1.out.row rfl rfl
    have HR : Hid ((W1.setRow (w.heap.size + 1) none25).heap[w.heap.size + 1]? = some (.cells none25 30 (0, 0))) := setRow_heap _ _ _ _ _ _ H1.out.row
    have HB : Hid (Below w.heap.size w (W1.setRow (w.heap.size + 1) none25)) := below_setRow H1.out.bel (Nat.le_succ _) _
    go_wp2_with fail
    rw [HV.out.1, HV.out.2.1, HV.out.2.2]
    exact bodyPost_ret (results_cell2 rfl _ _ (w.heap.size + 1) z20 ⟨#[]⟩ rfl rfl HR.out) rfl ⟨rfl, HB.out⟩
end Go.Proofs.YteajpimonenopaaGreatDoor
