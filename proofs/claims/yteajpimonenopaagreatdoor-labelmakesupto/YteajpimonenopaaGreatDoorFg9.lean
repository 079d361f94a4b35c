/- Text, Source, Fixed, Member. -/
import Derived.Test.YteajpimonenopaaGreatDoorFg8
namespace Go.Proofs.YteajpimonenopaaGreatDoor
open Go.RowKit Go.Shelf Go.Sort Go.Proofs.YteajpimonenopaaGreatDoor.Sha
/-- A finger's cells. -/
def fcell (k : Int) (v : Value) (sf : Bool) (o : ByteArray) (ix : Int) (s : List Nat) (n : ByteArray) : Array Value := #[.int .i64 k, v, .bool sf, .string o, .int .i64 ix] ++ bs s ++ #[.string n]
def outN : ByteArray := ⟨#[111, 117, 116]⟩
set_option maxRecDepth 100000 in
theorem bt1_x (a0 a1 a2 a3 a4 a5 a6 a7 a8 a9 a10 a11 a12 a13 a14 a15 a16 a17 a18 a19 a20 a21 a22 a23 a24 a25 a26 a27 a28 a29 a30 a31 : Nat) (q : Option Addr) (m c : Nat) (n : ByteArray) : Tryz.prog.built 44 [(0, .int .i64 1), (1, .slice q m c), (5, .agg (bs [a0, a1, a2, a3, a4, a5, a6, a7, a8, a9, a10, a11, a12, a13, a14, a15, a16, a17, a18, a19, a20, a21, a22, a23, a24, a25, a26, a27, a28, a29, a30, a31])), (6, .string n)] = some (fcell 1 (.slice q m c) false ⟨#[]⟩ 0 [a0, a1, a2, a3, a4, a5, a6, a7, a8, a9, a10, a11, a12, a13, a14, a15, a16, a17, a18, a19, a20, a21, a22, a23, a24, a25, a26, a27, a28, a29, a30, a31] n) := by kernel_rfl
set_option maxRecDepth 100000 in
theorem bt1 (s : List Nat) (hl : s.length = 32) (q : Option Addr) (m c : Nat) (n : ByteArray) : Tryz.prog.built 44 [(0, .int .i64 1), (1, .slice q m c), (5, .agg (bs s)), (6, .string n)] = some (fcell 1 (.slice q m c) false ⟨#[]⟩ 0 s n) := by
  match s, hl with
  | [a0, a1, a2, a3, a4, a5, a6, a7, a8, a9, a10, a11, a12, a13, a14, a15, a16, a17, a18, a19, a20, a21, a22, a23, a24, a25, a26, a27, a28, a29, a30, a31], _ => exact bt1_x a0 a1 a2 a3 a4 a5 a6 a7 a8 a9 a10 a11 a12 a13 a14 a15 a16 a17 a18 a19 a20 a21 a22 a23 a24 a25 a26 a27 a28 a29 a30 a31 q m c n
set_option maxRecDepth 100000 in
theorem bt2_x (a0 a1 a2 a3 a4 a5 a6 a7 a8 a9 a10 a11 a12 a13 a14 a15 a16 a17 a18 a19 a20 a21 a22 a23 a24 a25 a26 a27 a28 a29 a30 a31 : Nat) (q : Option Addr) (m c : Nat) (sf : Bool) (n : ByteArray) : Tryz.prog.built 44 [(0, .int .i64 2), (1, .slice q m c), (2, .bool sf), (5, .agg (bs [a0, a1, a2, a3, a4, a5, a6, a7, a8, a9, a10, a11, a12, a13, a14, a15, a16, a17, a18, a19, a20, a21, a22, a23, a24, a25, a26, a27, a28, a29, a30, a31])), (6, .string n)] = some (fcell 2 (.slice q m c) sf ⟨#[]⟩ 0 [a0, a1, a2, a3, a4, a5, a6, a7, a8, a9, a10, a11, a12, a13, a14, a15, a16, a17, a18, a19, a20, a21, a22, a23, a24, a25, a26, a27, a28, a29, a30, a31] n) := by kernel_rfl
set_option maxRecDepth 100000 in
theorem bt2 (s : List Nat) (hl : s.length = 32) (q : Option Addr) (m c : Nat) (sf : Bool) (n : ByteArray) : Tryz.prog.built 44 [(0, .int .i64 2), (1, .slice q m c), (2, .bool sf), (5, .agg (bs s)), (6, .string n)] = some (fcell 2 (.slice q m c) sf ⟨#[]⟩ 0 s n) := by
  match s, hl with
  | [a0, a1, a2, a3, a4, a5, a6, a7, a8, a9, a10, a11, a12, a13, a14, a15, a16, a17, a18, a19, a20, a21, a22, a23, a24, a25, a26, a27, a28, a29, a30, a31], _ => exact bt2_x a0 a1 a2 a3 a4 a5 a6 a7 a8 a9 a10 a11 a12 a13 a14 a15 a16 a17 a18 a19 a20 a21 a22 a23 a24 a25 a26 a27 a28 a29 a30 a31 q m c sf n
set_option maxRecDepth 100000 in
theorem bt3_x (a0 a1 a2 a3 a4 a5 a6 a7 a8 a9 a10 a11 a12 a13 a14 a15 a16 a17 a18 a19 a20 a21 a22 a23 a24 a25 a26 a27 a28 a29 a30 a31 : Nat) (n : ByteArray) : Tryz.prog.built 44 [(0, .int .i64 3), (3, .string ⟨#[111, 117, 116]⟩), (5, .agg (bs [a0, a1, a2, a3, a4, a5, a6, a7, a8, a9, a10, a11, a12, a13, a14, a15, a16, a17, a18, a19, a20, a21, a22, a23, a24, a25, a26, a27, a28, a29, a30, a31])), (6, .string n)] = some (fcell 3 (.slice none 0 0) false outN 0 [a0, a1, a2, a3, a4, a5, a6, a7, a8, a9, a10, a11, a12, a13, a14, a15, a16, a17, a18, a19, a20, a21, a22, a23, a24, a25, a26, a27, a28, a29, a30, a31] n) := by kernel_rfl
set_option maxRecDepth 100000 in
theorem bt3 (s : List Nat) (hl : s.length = 32) (n : ByteArray) : Tryz.prog.built 44 [(0, .int .i64 3), (3, .string ⟨#[111, 117, 116]⟩), (5, .agg (bs s)), (6, .string n)] = some (fcell 3 (.slice none 0 0) false outN 0 s n) := by
  match s, hl with
  | [a0, a1, a2, a3, a4, a5, a6, a7, a8, a9, a10, a11, a12, a13, a14, a15, a16, a17, a18, a19, a20, a21, a22, a23, a24, a25, a26, a27, a28, a29, a30, a31], _ => exact bt3_x a0 a1 a2 a3 a4 a5 a6 a7 a8 a9 a10 a11 a12 a13 a14 a15 a16 a17 a18 a19 a20 a21 a22 a23 a24 a25 a26 a27 a28 a29 a30 a31 n
set_option maxRecDepth 100000 in
theorem bt4_x (a0 a1 a2 a3 a4 a5 a6 a7 a8 a9 a10 a11 a12 a13 a14 a15 a16 a17 a18 a19 a20 a21 a22 a23 a24 a25 a26 a27 a28 a29 a30 a31 : Nat) (ix : Int) (n : ByteArray) : Tryz.prog.built 44 [(0, .int .i64 4), (4, .int .i64 ix), (5, .agg (bs [a0, a1, a2, a3, a4, a5, a6, a7, a8, a9, a10, a11, a12, a13, a14, a15, a16, a17, a18, a19, a20, a21, a22, a23, a24, a25, a26, a27, a28, a29, a30, a31])), (6, .string n)] = some (fcell 4 (.slice none 0 0) false ⟨#[]⟩ ix [a0, a1, a2, a3, a4, a5, a6, a7, a8, a9, a10, a11, a12, a13, a14, a15, a16, a17, a18, a19, a20, a21, a22, a23, a24, a25, a26, a27, a28, a29, a30, a31] n) := by kernel_rfl
set_option maxRecDepth 100000 in
theorem bt4 (s : List Nat) (hl : s.length = 32) (ix : Int) (n : ByteArray) : Tryz.prog.built 44 [(0, .int .i64 4), (4, .int .i64 ix), (5, .agg (bs s)), (6, .string n)] = some (fcell 4 (.slice none 0 0) false ⟨#[]⟩ ix s n) := by
  match s, hl with
  | [a0, a1, a2, a3, a4, a5, a6, a7, a8, a9, a10, a11, a12, a13, a14, a15, a16, a17, a18, a19, a20, a21, a22, a23, a24, a25, a26, a27, a28, a29, a30, a31], _ => exact bt4_x a0 a1 a2 a3 a4 a5 a6 a7 a8 a9 a10 a11 a12 a13 a14 a15 a16 a17 a18 a19 a20 a21 a22 a23 a24 a25 a26 a27 a28 a29 a30 a31 ix n
def buildF (ps : Array (Nat × Value)) : Sem Value := Instr.build 44 ps
theorem toBuildF (ps : Array (Nat × Value)) : Instr.build 44 ps = buildF ps := rfl
set_option maxRecDepth 100000 in
theorem sizeS : (Tryz.prog.info? 24).map (·.size) = some 32 := by kernel_rfl
theorem toSuL (v : Value) : Instr.loadAt 24 v = loadR 24 v := rfl
theorem run_ldS (w : World) (g : Nat) (l : List Nat) (hg : w.heap[g]? = some (.cells (bs l) 24 (0, 0))) (hl : l.length = 32) : (loadR 24 (.pointer (some ⟨g, 0, none⟩))).run Tryz.prog w = .ok (.agg (bs l)) w := by
  unfold loadR
  simp only [Instr.loadAt, Instr.sureAddr, Sem.run_bind, Sem.run_pure, Result.andThen_ok, run_loadVar_row w g 24 24 (bs l) (0, 0) _ hg Tryz.underlying24 rfl (by rw [sizeS, bs_size, hl])]
theorem toSs (p v : Value) : Instr.storeAt 24 p v = storeR 24 p v := rfl
theorem run_stS (w : World) (g : Nat) (l m : List Nat) (hg : w.heap[g]? = some (.cells (bs l) 24 (0, 0))) (hl : l.length = 32) (hm : m.length = 32) : (storeR 24 (.pointer (some ⟨g, 0, none⟩)) (.agg (bs m))).run Tryz.prog w = .ok () (w.setRow g (bs m)) := by
  unfold storeR
  simp only [Instr.storeAt, Instr.sureAddr, Sem.run_bind, Sem.run_pure, Result.andThen_ok, run_storeVar_row w g 24 24 (bs l) (bs m) hg (by rw [sizeS, bs_size, hm]) (by rw [bs_size, bs_size, hl, hm]) (bs_one m)]
/-- What Call answers: the label's parts and the error. -/
noncomputable def cH (f : Fg) : List Nat := if chkV f = 0 then callH f else z20
def cN (f : Fg) : ByteArray := if chkV f = 0 then f.nm else ⟨#[]⟩
theorem cH_len (f : Fg) : (cH f).length = 20 := by
  unfold cH
  split
  · exact fold_len _
  · rfl
theorem callV_eq (f : Fg) : callV f = .tuple #[.agg (lab (cH f) (cN f)), .int .i64 ((chkV f : Nat) : Int)] := by
  unfold callV cH cN
  by_cases h : chkV f = 0
  · rw [if_pos h, if_pos h, if_pos h, h]; rfl
  · rw [if_neg h, if_neg h, if_neg h]; rfl
theorem call_c (f : Fg) (w : World) (hk : Tk w) (hx : Tx w) (ht : Tb w) (hv0 : Ls f.v f.L w) :
    Calls Tryz.prog 17 #[.agg (fing f)] w fun e w' => e = .returned (.tuple #[.agg (lab (cH f) (cN f)), .int .i64 ((chkV f : Nat) : Int)]) ∧ Below w.heap.size w w' := by
  rw [← callV_eq]
  exact call_any f w hk hx ht hv0
theorem z32_byt : Byt (List.replicate 32 0) := fun x hx => by rw [List.eq_of_mem_replicate hx]; decide
/-- The fingers of the ways of making. -/
def fgT (f : Fg) (Z : List Nat) (hZ : Z.length = 32) (bZ : Byt Z) (n : ByteArray) : Fg := ⟨1, f.v, f.L, false, ⟨#[]⟩, 0, Z, n, hZ, bZ, by omega, by omega, f.hn, f.hL⟩
def fgS (f : Fg) (sf : Bool) (Z : List Nat) (hZ : Z.length = 32) (bZ : Byt Z) (n : ByteArray) : Fg := ⟨2, f.v, f.L, sf, ⟨#[]⟩, 0, Z, n, hZ, bZ, by omega, by omega, f.hn, f.hL⟩
def fgN : Fg := ⟨0, .slice none 0 0, [], false, ⟨#[]⟩, 0, List.replicate 32 0, ⟨#[]⟩, rfl, z32_byt, by omega, by omega, by simp, fun x h => by simp at h⟩
def fgO (Z : List Nat) (hZ : Z.length = 32) (bZ : Byt Z) (n : ByteArray) : Fg := ⟨3, .slice none 0 0, [], false, outN, 0, Z, n, hZ, bZ, by omega, by omega, by simp, fun x h => by simp at h⟩
def fgM (ix : Int) (hi : -9223372036854775808 ≤ ix ∧ ix ≤ 9223372036854775807) (Z : List Nat) (hZ : Z.length = 32) (bZ : Byt Z) (n : ByteArray) : Fg := ⟨4, .slice none 0 0, [], false, ⟨#[]⟩, ix, Z, n, hZ, bZ, by omega, hi, by simp, fun x h => by simp at h⟩
theorem ls_nil (w : World) : Ls (.slice none 0 0) [] w := .inl ⟨rfl, none, 0, rfl, Nat.zero_le _, fun _ => rfl⟩
/-- The sum's block and the label's. -/
structure Os (s : List Nat) (g r : Nat) (w W : World) : Prop where
  bel : Below w.heap.size w W
  sum : W.heap[g]? = some (.cells (bs s) 24 (0, 0))
  row : W.heap[r]? = some (.cells none25 30 (0, 0))
theorem Os.below {s : List Nat} {g r : Nat} {w W W' : World} (h : Os s g r w W) (b : Below W.heap.size W W') : Os s g r w W' :=
  ⟨h.bel.trans (b.mono h.bel.size), (b.block _ (Array.getElem?_eq_some_iff.1 h.sum).1).trans h.sum, (b.block _ (Array.getElem?_eq_some_iff.1 h.row).1).trans h.row⟩
attribute [local go_sem ↓] to25s toBuildF toSuL
set_option maxRecDepth 100000 in
set_option maxHeartbeats 1000000 in
theorem text_any (f : Fg) (d : List Nat) (hd : d.length ≤ 1152921504606846976) (hdb : Byt d) (dv : Value) (n : ByteArray) (w : World) (hk : Tk w) (hx : Tx w) (ht : Tb w) (hv0 : Ls f.v f.L w) (hy : YteajpimonenopaaGreatDoor.Byl dv d w) :
    Calls Tryz.prog 5 #[.string n, dv, f.v] w fun e w' => e = .returned (callV (fgT f (sha d) (sha_len d) (sha_byt d) n)) ∧ Below w.heap.size w w' := by
  rw [callV_eq]
  obtain ⟨q, c, hvv, -, -⟩ := hv0.form
  obtain ⟨W0, hW0⟩ : ∃ W0, w.alloc (.cells none25 30) = W0 := ⟨_, rfl⟩
  have b0 : Below w.heap.size w W0 := by rw [← hW0]; exact (Below.refl _ w).alloc (Nat.le_refl _) _
  have r0 : W0.heap[w.heap.size]? = some (.cells none25 30 (0, 0)) := by rw [← hW0]; exact heap_alloc_new w _
  obtain ⟨Z, hZ⟩ : ∃ Z, Z = sha d := ⟨_, rfl⟩
  have C0 : Hid (Calls Tryz.prog 18 #[dv] W0 fun e w' => e = .returned (.agg (bs Z)) ∧ Below W0.heap.size W0 w') := by rw [hZ]; exact of_tb d dv hd hdb W0 (ht.below b0 ht.sz) (hy.below b0)
  obtain ⟨F, hF⟩ : ∃ F, F = fgT f (sha d) (sha_len d) (sha_byt d) n := ⟨_, rfl⟩
  have hfing : fing F = fcell 1 (.slice q f.L.length c) false ⟨#[]⟩ 0 Z n := by rw [hF, hZ, ← hvv]; simp only [fing, fgT, fcell]
  have hbu : ∀ W, (buildF #[(0, .int .i64 1), (1, .slice q f.L.length c), (5, .agg (bs Z)), (6, .string n)]).run Tryz.prog W = .ok (.agg (fing F)) W := fun W => by rw [hfing]; exact run_build W 44 _ _ (bt1 Z (by rw [hZ]; exact sha_len d) q f.L.length c n)
  have HC : Hid (∀ W, Below w.heap.size w W → Calls Tryz.prog 17 #[.agg (fing F)] W fun e w' => e = .returned (.tuple #[.agg (lab (cH F) (cN F)), .int .i64 ((chkV F : Nat) : Int)]) ∧ Below W.heap.size W w') := fun W hW => call_c F W (hk.below hW hk.sz) (hx.below hW hx.sz) (ht.below hW ht.sz) (by rw [hF]; exact hv0.below hW)
  rw [← hF, hvv]
  have HL : Hid ((cH F).length = 20) := cH_len F
  have HW0 : Hid (w.alloc (.cells none25 30) = W0) := hW0
  have H0 : Hid (Below w.heap.size w W0 ∧ W0.heap[w.heap.size]? = some (.cells none25 30 (0, 0))) := ⟨b0, r0⟩
  clear hW0 b0 r0 hZ hF hfing hvv hk hx ht hv0 hy
  go_enter Tryz.func5, Tryz.ntmps5
  go_wp2_with fail
  show Calls _ _ _ (w.alloc (.cells none25 30)) _
  rw [HW0.out]
  refine Calls.mono C0.out ?_
  rintro e W1 ⟨rfl, b1⟩
  have H1 : Hid (Below w.heap.size w W1 ∧ W1.heap[w.heap.size]? = some (.cells none25 30 (0, 0))) := ⟨H0.out.1.trans (b1.mono H0.out.1.size), (b1.block _ (Array.getElem?_eq_some_iff.1 H0.out.2).1).trans H0.out.2⟩
  have C1 : Hid _ := HC.out W1 H1.out.1
  clear C0 b1 H0 HC
  go_wp2_with fail
  refine Calls.mono C1.out ?_
  rintro e W2 ⟨rfl, b2⟩
  have r2 : W2.heap[w.heap.size]? = some (.cells none25 30 (0, 0)) := (b2.block _ (Array.getElem?_eq_some_iff.1 H1.out.2).1).trans H1.out.2
  have st := run_storeR25 W2 w.heap.size z20 (cH F) ⟨#[]⟩ (cN F) r2 rfl HL.out
  have HR : Hid ((W2.setRow w.heap.size (lab (cH F) (cN F))).heap[w.heap.size]? = some (.cells (lab (cH F) (cN F)) 30 (0, 0))) := setRow_heap _ _ _ _ _ _ r2
  have HB : Hid (Below w.heap.size w (W2.setRow w.heap.size (lab (cH F) (cN F)))) := below_setRow (H1.out.1.trans (b2.mono H1.out.1.size)) (Nat.le_refl _) _
  clear C1 b2 H1 r2 hbu
  go_wp2_with fail
  exact bodyPost_ret (results_cell2 rfl _ _ w.heap.size (cH F) (cN F) HL.out rfl HR.out) rfl ⟨rfl, HB.out⟩
set_option maxRecDepth 100000 in
set_option maxHeartbeats 1000000 in
theorem source_any (f : Fg) (sf : Bool) (Z : List Nat) (hZ : Z.length = 32) (bZ : Byt Z) (n : ByteArray) (w : World) (hk : Tk w) (hx : Tx w) (ht : Tb w) (hv0 : Ls f.v f.L w) :
    Calls Tryz.prog 7 #[.string n, .agg (bs Z), f.v, .bool sf] w fun e w' => e = .returned (callV (fgS f sf Z hZ bZ n)) ∧ Below w.heap.size w w' := by
  rw [callV_eq]
  obtain ⟨q, c, hvv, -, -⟩ := hv0.form
  obtain ⟨W0, hW0⟩ : ∃ W0, (w.alloc (.cells (bs Z) 24)).alloc (.cells none25 30) = W0 := ⟨_, rfl⟩
  have b0 : Below w.heap.size w W0 := by rw [← hW0]; exact ((Below.refl _ w).alloc (Nat.le_refl _) _).alloc (by simp) _
  have H0 : Hid (Os Z w.heap.size (w.heap.size + 1) w W0) := ⟨b0, by rw [← hW0]; exact heap_alloc2_old _ _ _, by rw [← hW0]; exact heap_alloc2_new _ _ _⟩
  obtain ⟨F, hF⟩ : ∃ F, F = fgS f sf Z hZ bZ n := ⟨_, rfl⟩
  have hfing : fing F = fcell 2 (.slice q f.L.length c) sf ⟨#[]⟩ 0 Z n := by rw [hF, ← hvv]; rfl
  have hbu : ∀ W, (buildF #[(0, .int .i64 2), (1, .slice q f.L.length c), (2, .bool sf), (5, .agg (bs Z)), (6, .string n)]).run Tryz.prog W = .ok (.agg (fing F)) W := fun W => by rw [hfing]; exact run_build W 44 _ _ (bt2 Z hZ q f.L.length c sf n)
  have C1 : Hid _ := call_c F W0 (hk.below b0 hk.sz) (hx.below b0 hx.sz) (ht.below b0 ht.sz) (by rw [hF]; exact hv0.below b0)
  rw [← hF, hvv]
  have HL : Hid ((cH F).length = 20) := cH_len F
  have ls := run_ldS W0 w.heap.size Z H0.out.sum hZ
  have HW0 : Hid ((w.alloc (.cells (bs Z) 24)).alloc (.cells none25 30) = W0) := hW0
  have ls' : (loadR 24 (.pointer (some ⟨w.heap.size, 0, none⟩))).run Tryz.prog ((w.alloc (.cells (bs Z) 24)).alloc (.cells #[.int .u8 0, .int .u8 0, .int .u8 0, .int .u8 0, .int .u8 0, .int .u8 0, .int .u8 0, .int .u8 0, .int .u8 0, .int .u8 0, .int .u8 0, .int .u8 0, .int .u8 0, .int .u8 0, .int .u8 0, .int .u8 0, .int .u8 0, .int .u8 0, .int .u8 0, .int .u8 0, .string ⟨#[]⟩] 30)) = .ok (.agg (bs Z)) ((w.alloc (.cells (bs Z) 24)).alloc (.cells #[.int .u8 0, .int .u8 0, .int .u8 0, .int .u8 0, .int .u8 0, .int .u8 0, .int .u8 0, .int .u8 0, .int .u8 0, .int .u8 0, .int .u8 0, .int .u8 0, .int .u8 0, .int .u8 0, .int .u8 0, .int .u8 0, .int .u8 0, .int .u8 0, .int .u8 0, .int .u8 0, .string ⟨#[]⟩] 30)) := by
    have h2 : (w.alloc (.cells (bs Z) 24)).alloc (.cells #[.int .u8 0, .int .u8 0, .int .u8 0, .int .u8 0, .int .u8 0, .int .u8 0, .int .u8 0, .int .u8 0, .int .u8 0, .int .u8 0, .int .u8 0, .int .u8 0, .int .u8 0, .int .u8 0, .int .u8 0, .int .u8 0, .int .u8 0, .int .u8 0, .int .u8 0, .int .u8 0, .string ⟨#[]⟩] 30) = W0 := hW0
    rw [h2]
    exact ls
  clear hW0 b0 hF hfing hvv hk hx ht hv0 ls
  go_enter Tryz.func7, Tryz.ntmps7
  go_wp2_with fail
  show Calls _ _ _ ((w.alloc (.cells (bs Z) 24)).alloc (.cells none25 30)) _
  rw [HW0.out]
  refine Calls.mono C1.out ?_
  rintro e W2 ⟨rfl, b2⟩
  have H2 : Os Z w.heap.size (w.heap.size + 1) w W2 := H0.out.below b2
  have st := run_storeR25 W2 (w.heap.size + 1) z20 (cH F) ⟨#[]⟩ (cN F) H2.row rfl HL.out
  have HR : Hid ((W2.setRow (w.heap.size + 1) (lab (cH F) (cN F))).heap[w.heap.size + 1]? = some (.cells (lab (cH F) (cN F)) 30 (0, 0))) := setRow_heap _ _ _ _ _ _ H2.row
  have HB : Hid (Below w.heap.size w (W2.setRow (w.heap.size + 1) (lab (cH F) (cN F)))) := below_setRow H2.bel (Nat.le_succ _) _
  clear C1 b2 H2 H0 hbu ls'
  go_wp2_with fail
  exact bodyPost_ret (results_cell2 rfl _ _ (w.heap.size + 1) (cH F) (cN F) HL.out rfl HR.out) rfl ⟨rfl, HB.out⟩
set_option maxRecDepth 100000 in
set_option maxHeartbeats 1000000 in
theorem member_any (ix : Int) (hi : -9223372036854775808 ≤ ix ∧ ix ≤ 9223372036854775807) (Z : List Nat) (hZ : Z.length = 32) (bZ : Byt Z) (n : ByteArray) (w : World) (hk : Tk w) (hx : Tx w) (ht : Tb w) :
    Calls Tryz.prog 14 #[.agg (bs Z), .int .i64 ix, .string n] w fun e w' => e = .returned (callV (fgM ix hi Z hZ bZ n)) ∧ Below w.heap.size w w' := by
  rw [callV_eq]
  obtain ⟨W0, hW0⟩ : ∃ W0, (w.alloc (.cells (bs Z) 24)).alloc (.cells none25 30) = W0 := ⟨_, rfl⟩
  have b0 : Below w.heap.size w W0 := by rw [← hW0]; exact ((Below.refl _ w).alloc (Nat.le_refl _) _).alloc (by simp) _
  have H0 : Hid (Os Z w.heap.size (w.heap.size + 1) w W0) := ⟨b0, by rw [← hW0]; exact heap_alloc2_old _ _ _, by rw [← hW0]; exact heap_alloc2_new _ _ _⟩
  obtain ⟨F, hF⟩ : ∃ F, F = fgM ix hi Z hZ bZ n := ⟨_, rfl⟩
  have hfing : fing F = fcell 4 (.slice none 0 0) false ⟨#[]⟩ ix Z n := by rw [hF]; rfl
  have hbu : ∀ W, (buildF #[(0, .int .i64 4), (4, .int .i64 ix), (5, .agg (bs Z)), (6, .string n)]).run Tryz.prog W = .ok (.agg (fing F)) W := fun W => by rw [hfing]; exact run_build W 44 _ _ (bt4 Z hZ ix n)
  have C1 : Hid _ := call_c F W0 (hk.below b0 hk.sz) (hx.below b0 hx.sz) (ht.below b0 ht.sz) (by rw [hF]; exact ls_nil W0)
  rw [← hF]
  have HL : Hid ((cH F).length = 20) := cH_len F
  have ls := run_ldS W0 w.heap.size Z H0.out.sum hZ
  have HW0 : Hid ((w.alloc (.cells (bs Z) 24)).alloc (.cells none25 30) = W0) := hW0
  have ls' : (loadR 24 (.pointer (some ⟨w.heap.size, 0, none⟩))).run Tryz.prog ((w.alloc (.cells (bs Z) 24)).alloc (.cells #[.int .u8 0, .int .u8 0, .int .u8 0, .int .u8 0, .int .u8 0, .int .u8 0, .int .u8 0, .int .u8 0, .int .u8 0, .int .u8 0, .int .u8 0, .int .u8 0, .int .u8 0, .int .u8 0, .int .u8 0, .int .u8 0, .int .u8 0, .int .u8 0, .int .u8 0, .int .u8 0, .string ⟨#[]⟩] 30)) = .ok (.agg (bs Z)) ((w.alloc (.cells (bs Z) 24)).alloc (.cells #[.int .u8 0, .int .u8 0, .int .u8 0, .int .u8 0, .int .u8 0, .int .u8 0, .int .u8 0, .int .u8 0, .int .u8 0, .int .u8 0, .int .u8 0, .int .u8 0, .int .u8 0, .int .u8 0, .int .u8 0, .int .u8 0, .int .u8 0, .int .u8 0, .int .u8 0, .int .u8 0, .string ⟨#[]⟩] 30)) := by
    have h2 : (w.alloc (.cells (bs Z) 24)).alloc (.cells #[.int .u8 0, .int .u8 0, .int .u8 0, .int .u8 0, .int .u8 0, .int .u8 0, .int .u8 0, .int .u8 0, .int .u8 0, .int .u8 0, .int .u8 0, .int .u8 0, .int .u8 0, .int .u8 0, .int .u8 0, .int .u8 0, .int .u8 0, .int .u8 0, .int .u8 0, .int .u8 0, .string ⟨#[]⟩] 30) = W0 := hW0
    rw [h2]
    exact ls
  clear hW0 b0 hF hfing hk hx ht ls
  go_enter Tryz.func14, Tryz.ntmps14
  go_wp2_with fail
  show Calls _ _ _ ((w.alloc (.cells (bs Z) 24)).alloc (.cells none25 30)) _
  rw [HW0.out]
  refine Calls.mono C1.out ?_
  rintro e W2 ⟨rfl, b2⟩
  have H2 : Os Z w.heap.size (w.heap.size + 1) w W2 := H0.out.below b2
  have st := run_storeR25 W2 (w.heap.size + 1) z20 (cH F) ⟨#[]⟩ (cN F) H2.row rfl HL.out
  have HR : Hid ((W2.setRow (w.heap.size + 1) (lab (cH F) (cN F))).heap[w.heap.size + 1]? = some (.cells (lab (cH F) (cN F)) 30 (0, 0))) := setRow_heap _ _ _ _ _ _ H2.row
  have HB : Hid (Below w.heap.size w (W2.setRow (w.heap.size + 1) (lab (cH F) (cN F)))) := below_setRow H2.bel (Nat.le_succ _) _
  clear C1 b2 H2 H0 hbu ls'
  go_wp2_with fail
  exact bodyPost_ret (results_cell2 rfl _ _ (w.heap.size + 1) (cH F) (cN F) HL.out rfl HR.out) rfl ⟨rfl, HB.out⟩
end Go.Proofs.YteajpimonenopaaGreatDoor
