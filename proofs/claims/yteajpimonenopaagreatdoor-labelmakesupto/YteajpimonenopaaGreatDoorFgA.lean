/- Fixed. -/
import Derived.Test.YteajpimonenopaaGreatDoorFg9
namespace Go.Proofs.YteajpimonenopaaGreatDoor
open Go.RowKit Go.Shelf Go.Sort Go.Proofs.YteajpimonenopaaGreatDoor.Sha
/-- A sum laid down anew. -/
theorem layS (W : World) (Z : List Nat) (hZ : Z.length = 32) : ∃ W', (storeR 24 (.pointer (some ⟨W.heap.size, 0, none⟩)) (.agg (bs Z))).run Tryz.prog (W.alloc (.cells #[.int .u8 0, .int .u8 0, .int .u8 0, .int .u8 0, .int .u8 0, .int .u8 0, .int .u8 0, .int .u8 0, .int .u8 0, .int .u8 0, .int .u8 0, .int .u8 0, .int .u8 0, .int .u8 0, .int .u8 0, .int .u8 0, .int .u8 0, .int .u8 0, .int .u8 0, .int .u8 0, .int .u8 0, .int .u8 0, .int .u8 0, .int .u8 0, .int .u8 0, .int .u8 0, .int .u8 0, .int .u8 0, .int .u8 0, .int .u8 0, .int .u8 0, .int .u8 0] 24)) = .ok () W' ∧ W'.heap[W.heap.size]? = some (.cells (bs Z) 24 (0, 0)) ∧ Below W.heap.size W W' := by
  have h := run_stS (W.alloc (.cells (bs (List.replicate 32 0)) 24)) W.heap.size (List.replicate 32 0) Z (heap_alloc_new _ _) rfl hZ
  exact ⟨_, h, setRow_heap _ _ _ _ _ _ (heap_alloc_new _ _), below_setRow ((Below.refl _ W).alloc (Nat.le_refl _) _) (Nat.le_refl _) _⟩
def fx17 : ByteArray := ⟨#[102, 105, 120, 101, 100, 58, 111, 117, 116, 58, 115, 104, 97, 50, 53, 54, 58]⟩
def fixT (Z : List Nat) : ByteArray := fx17 ++ str (hexL Z) ++ colw
noncomputable def fixZ (Z : List Nat) : List Nat := sha (bl (fixT Z))
theorem fixT_size (Z : List Nat) (hZ : Z.length = 32) : (fixT Z).size = 82 := by
  unfold fixT
  rw [app_size, app_size, str_size, hexL_len, hZ]
  rfl
def cvR (v : Value) : Sem Value := convert 9 22 v
theorem toCv (v : Value) : convert 9 22 v = cvR v := rfl
theorem byl_sum {W : World} {g : Nat} {Z : List Nat} (h : W.heap[g]? = some (.cells (bs Z) 24 (0, 0))) (hZ : Z.length = 32) : YteajpimonenopaaGreatDoor.Byl (.slice (some ⟨g, 0, none⟩) 32 32) Z W := by
  have : YteajpimonenopaaGreatDoor.Byl (.slice (some ⟨g, 0, none⟩) Z.length 32) Z W := .inr ⟨g, 0, 32, rfl, by rw [hZ]; omega, by unfold maxLen; omega, (Array.getElem?_eq_some_iff.1 h).1, fun j hj => by rw [cell_of_row _ _ _ _ _ _ h, Nat.zero_add]; exact bs_get _ _ hj⟩
  rw [hZ] at this
  exact this
attribute [local go_sem ↓] to25s toBuildF toSuL toSs toCv
set_option maxRecDepth 100000 in
set_option maxHeartbeats 1000000 in
theorem fixed_f (Z : List Nat) (hZ : Z.length = 32) (bZ : Byt Z) (n : ByteArray) (w : World) (hk : Tk w) (hx : Tx w) (ht : Tb w) :
    Calls Tryz.prog 10 #[.string n, .agg (bs Z), .bool false] w fun e w' => e = .returned (callV (fgS fgN false Z hZ bZ n)) ∧ Below w.heap.size w w' := by
  rw [callV_eq]
  obtain ⟨W0, hW0⟩ : ∃ W0, (w.alloc (.cells (bs Z) 24)).alloc (.cells none25 30) = W0 := ⟨_, rfl⟩
  have b0 : Below w.heap.size w W0 := by rw [← hW0]; exact ((Below.refl _ w).alloc (Nat.le_refl _) _).alloc (by simp) _
  have H0 : Hid (Os Z w.heap.size (w.heap.size + 1) w W0) := ⟨b0, by rw [← hW0]; exact heap_alloc2_old _ _ _, by rw [← hW0]; exact heap_alloc2_new _ _ _⟩
  obtain ⟨F, hF⟩ : ∃ F, F = fgS fgN false Z hZ bZ n := ⟨_, rfl⟩
  have C1 := source_any fgN false Z hZ bZ n W0 (hk.below b0 hk.sz) (hx.below b0 hx.sz) (ht.below b0 ht.sz) (ls_nil W0)
  rw [callV_eq, ← hF] at C1
  have HC1 : Hid _ := C1
  rw [← hF]
  have HL : Hid ((cH F).length = 20) := cH_len F
  have ls := run_ldS W0 w.heap.size Z H0.out.sum hZ
  have HW0 : Hid ((w.alloc (.cells (bs Z) 24)).alloc (.cells none25 30) = W0) := hW0
  have ls' : (loadR 24 (.pointer (some ⟨w.heap.size, 0, none⟩))).run Tryz.prog ((w.alloc (.cells (bs Z) 24)).alloc (.cells #[.int .u8 0, .int .u8 0, .int .u8 0, .int .u8 0, .int .u8 0, .int .u8 0, .int .u8 0, .int .u8 0, .int .u8 0, .int .u8 0, .int .u8 0, .int .u8 0, .int .u8 0, .int .u8 0, .int .u8 0, .int .u8 0, .int .u8 0, .int .u8 0, .int .u8 0, .int .u8 0, .string ⟨#[]⟩] 30)) = .ok (.agg (bs Z)) ((w.alloc (.cells (bs Z) 24)).alloc (.cells #[.int .u8 0, .int .u8 0, .int .u8 0, .int .u8 0, .int .u8 0, .int .u8 0, .int .u8 0, .int .u8 0, .int .u8 0, .int .u8 0, .int .u8 0, .int .u8 0, .int .u8 0, .int .u8 0, .int .u8 0, .int .u8 0, .int .u8 0, .int .u8 0, .int .u8 0, .int .u8 0, .string ⟨#[]⟩] 30)) := by
    have h2 : (w.alloc (.cells (bs Z) 24)).alloc (.cells #[.int .u8 0, .int .u8 0, .int .u8 0, .int .u8 0, .int .u8 0, .int .u8 0, .int .u8 0, .int .u8 0, .int .u8 0, .int .u8 0, .int .u8 0, .int .u8 0, .int .u8 0, .int .u8 0, .int .u8 0, .int .u8 0, .int .u8 0, .int .u8 0, .int .u8 0, .int .u8 0, .string ⟨#[]⟩] 30) = W0 := hW0
    rw [h2]
    exact ls
  clear hW0 b0 hF hk hx ht ls C1
  go_enter Tryz.func10, Tryz.ntmps10
  go_wp2_with fail
  show Calls _ _ _ ((w.alloc (.cells (bs Z) 24)).alloc (.cells none25 30)) _
  rw [HW0.out]
  refine Calls.mono HC1.out ?_
  rintro e W2 ⟨rfl, b2⟩
  have H2 : Os Z w.heap.size (w.heap.size + 1) w W2 := H0.out.below b2
  have st := run_storeR25 W2 (w.heap.size + 1) z20 (cH F) ⟨#[]⟩ (cN F) H2.row rfl HL.out
  have HR : Hid ((W2.setRow (w.heap.size + 1) (lab (cH F) (cN F))).heap[w.heap.size + 1]? = some (.cells (lab (cH F) (cN F)) 30 (0, 0))) := setRow_heap _ _ _ _ _ _ H2.row
  have HB : Hid (Below w.heap.size w (W2.setRow (w.heap.size + 1) (lab (cH F) (cN F)))) := below_setRow H2.bel (Nat.le_succ _) _
  clear HC1 b2 H2 H0 ls'
  go_wp2_with fail
  exact bodyPost_ret (results_cell2 rfl _ _ (w.heap.size + 1) (cH F) (cN F) HL.out rfl HR.out) rfl ⟨rfl, HB.out⟩
set_option maxRecDepth 100000 in
set_option maxHeartbeats 1000000 in
theorem fixed_t (Z : List Nat) (hZ : Z.length = 32) (bZ : Byt Z) (n : ByteArray) (w : World) (hk : Tk w) (hx : Tx w) (ht : Tb w) :
    Calls Tryz.prog 10 #[.string n, .agg (bs Z), .bool true] w fun e w' => e = .returned (callV (fgO (fixZ Z) (sha_len _) (sha_byt _) n)) ∧ Below w.heap.size w w' := by
  rw [callV_eq]
  obtain ⟨W0, hW0⟩ : ∃ W0, (w.alloc (.cells (bs Z) 24)).alloc (.cells none25 30) = W0 := ⟨_, rfl⟩
  have b0 : Below w.heap.size w W0 := by rw [← hW0]; exact ((Below.refl _ w).alloc (Nat.le_refl _) _).alloc (by simp) _
  have H0 : Hid (Os Z w.heap.size (w.heap.size + 1) w W0) := ⟨b0, by rw [← hW0]; exact heap_alloc2_old _ _ _, by rw [← hW0]; exact heap_alloc2_new _ _ _⟩
  have HT : Hid (∀ W, Below w.heap.size w W → Tk W ∧ Tx W ∧ Tb W) := fun W h => ⟨hk.below h hk.sz, hx.below h hx.sz, ht.below h ht.sz⟩
  have C0 : Hid _ := hexC_any Z bZ (by rw [hZ]; omega) _ W0 (byl_sum H0.out.sum hZ) (HT.out W0 b0).2.1
  obtain ⟨X, hX⟩ : ∃ X, X = str (hexL Z) := ⟨_, rfl⟩
  have hXs : X.size = 64 := by rw [hX, str_size, hexL_len, hZ]
  obtain ⟨Y, hY⟩ : ∃ Y, Y = sha (bl (fixT Z)) := ⟨_, rfl⟩
  have hYl : Y.length = 32 := by rw [hY]; exact sha_len _
  obtain ⟨T, hT⟩ : ∃ T, fx17 ++ X ++ colw = T := ⟨_, rfl⟩
  have hTT : T = fixT Z := by rw [← hT, hX]; rfl
  have hTs : T.size = 82 := by rw [hTT]; exact fixT_size Z hZ
  have C0' : Hid (Calls Tryz.prog 22 #[.slice (some ⟨w.heap.size, 0, none⟩) 32 32] W0 fun e w' => e = .returned (.string X) ∧ Below W0.heap.size W0 w') := by rw [hX]; exact C0.out
  have HO : Hid (∀ W v, Tb W → YteajpimonenopaaGreatDoor.Byl v (bl T) W → Calls Tryz.prog 18 #[v] W fun e w' => e = .returned (.agg (bs Y)) ∧ Below W.heap.size W w') := fun W v h1 h2 => by
    have := of_tb (bl T) v (by rw [bl_len]; omega) (bl_byt T) W h1 h2
    rw [hTT, ← hY] at this
    exact this
  obtain ⟨F, hF⟩ : ∃ F, F = fgO (fixZ Z) (sha_len _) (sha_byt _) n := ⟨_, rfl⟩
  have hfing : fing F = fcell 3 (.slice none 0 0) false outN 0 Y n := by rw [hF, hY]; simp only [fing, fgO, fcell, fixZ]
  have hbu : ∀ W, (buildF #[(0, .int .i64 3), (3, .string ⟨#[111, 117, 116]⟩), (5, .agg (bs Y)), (6, .string n)]).run Tryz.prog W = .ok (.agg (fing F)) W := fun W => by rw [hfing]; exact run_build W 44 _ _ (bt3 Y hYl n)
  have HC : Hid (∀ W, Below w.heap.size w W → Calls Tryz.prog 17 #[.agg (fing F)] W fun e w' => e = .returned (.tuple #[.agg (lab (cH F) (cN F)), .int .i64 ((chkV F : Nat) : Int)]) ∧ Below W.heap.size W w') := fun W hW => call_c F W (HT.out W hW).1 (HT.out W hW).2.1 (HT.out W hW).2.2 (by rw [hF]; exact ls_nil W)
  rw [← hF]
  have HL : Hid ((cH F).length = 20) := cH_len F
  have HW0 : Hid ((w.alloc (.cells (bs Z) 24)).alloc (.cells none25 30) = W0) := hW0
  have z1 : ¬ (9223372036854775807 < 17 + X.size) := by omega
  have z2 : ¬ (9223372036854775807 < (fx17 ++ X).size + 1) := by rw [app_size, hXs]; show ¬ (9223372036854775807 < 17 + 64 + 1); omega
  have hT' : (fx17 ++ X) ++ ⟨#[58]⟩ = T := hT
  have HTS : Hid (T.size = 82) := hTs
  have HYL : Hid (Y.length = 32) := hYl
  clear hW0 b0 hF hfing hk hx ht C0 hX hY hTT hTs hYl hT
  obtain ⟨XA, hXA⟩ : ∃ XA, (⟨#[102, 105, 120, 101, 100, 58, 111, 117, 116, 58, 115, 104, 97, 50, 53, 54, 58]⟩ : ByteArray) ++ X = XA := ⟨_, rfl⟩
  have z2' : ¬ (9223372036854775807 < XA.size + 1) := by rw [← hXA]; exact z2
  have hT2 : XA ++ (⟨#[58]⟩ : ByteArray) = T := by rw [← hXA]; exact hT'
  clear z2 hT'
  go_enter Tryz.func10, Tryz.ntmps10
  go_wp2_with fail
  show Calls _ _ _ ((w.alloc (.cells (bs Z) 24)).alloc (.cells none25 30)) _
  rw [HW0.out]
  refine Calls.mono C0'.out ?_
  rintro e W1 ⟨rfl, b1⟩
  have H1 : Hid (Os Z w.heap.size (w.heap.size + 1) w W1) := H0.out.below b1
  obtain ⟨c, W2, rcv, hby, hb2⟩ := run_cvb W1 T (by rw [HTS.out]; omega)
  have rcv' : (cvR (.string T)).run Tryz.prog W1 = .ok (.slice (some ⟨W1.heap.size, 0, none⟩) T.size c) W2 := rcv
  have H2 : Hid (Os Z w.heap.size (w.heap.size + 1) w W2) := H1.out.below hb2
  have C2 : Hid _ := HO.out W2 _ (HT.out W2 H2.out.bel).2.2 hby
  clear C0' b1 H0 hby hb2 rcv
  go_wp2_with fail
  refine Calls.mono C2.out ?_
  rintro e W3 ⟨rfl, b3⟩
  have H3 : Hid (Os Z w.heap.size (w.heap.size + 1) w W3) := H2.out.below b3
  obtain ⟨W4, s4, r4, b4⟩ := layS W3 Y HYL.out
  have H4 : Hid (Os Z w.heap.size (w.heap.size + 1) w W4) := H3.out.below b4
  have l4 := run_ldS W4 W3.heap.size Y r4 HYL.out
  have C4 : Hid _ := HC.out W4 H4.out.bel
  clear C2 b3 b4 rcv' H1 H2 r4 z1 z2' hT2 hXA
  go_wp2_with fail
  refine Calls.mono C4.out ?_
  rintro e W5 ⟨rfl, b5⟩
  have H5 : Os Z w.heap.size (w.heap.size + 1) w W5 := H4.out.below b5
  have st := run_storeR25 W5 (w.heap.size + 1) z20 (cH F) ⟨#[]⟩ (cN F) H5.row rfl HL.out
  have HR : Hid ((W5.setRow (w.heap.size + 1) (lab (cH F) (cN F))).heap[w.heap.size + 1]? = some (.cells (lab (cH F) (cN F)) 30 (0, 0))) := setRow_heap _ _ _ _ _ _ H5.row
  have HB : Hid (Below w.heap.size w (W5.setRow (w.heap.size + 1) (lab (cH F) (cN F)))) := below_setRow H5.bel (Nat.le_succ _) _
  clear C4 b5 H5 H4 H3 hbu l4 s4
  go_wp2_with fail
  exact bodyPost_ret (results_cell2 rfl _ _ (w.heap.size + 1) (cH F) (cN F) HL.out rfl HR.out) rfl ⟨rfl, HB.out⟩
end Go.Proofs.YteajpimonenopaaGreatDoor
