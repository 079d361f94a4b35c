/- Several texts in one: LnF, LnG, LnN. -/
import Derived.Test.YtffghlbgbfhfdaaGreatDoorLnJ
import Derived.Test.YtffghlbgbfhfdaaGreatDoorLnU
/- readFinger. -/
namespace Go.Proofs.YtffghlbgbfhfdaaGreatDoor
open Go.RowKit Go.Shelf Go.Sort
def z32 : List Nat := List.replicate 32 0
def zF : Array Value := fgA 0 (.slice none 0 0) false ⟨#[]⟩ 0 z32 ⟨#[]⟩
theorem zF_size : zF.size = 38 := rfl
theorem to26s (p v : Value) : Instr.storeAt 26 p v = storeR 26 p v := rfl
theorem ldF (w : World) (g : Nat) (C : Array Value) (hC : C.size = 38) (hg : w.heap[g]? = some (.cells C 26 (0, 0))) : (loadR 26 (.pointer (some ⟨g, 0, none⟩))).run Tryz.prog w = .ok (.agg C) w := by
  unfold loadR
  simp only [Instr.loadAt, Instr.sureAddr, Sem.run_bind, Sem.run_pure, Result.andThen_ok, run_loadVar_row w g 26 26 C (0, 0) _ hg underF rfl (by rw [sizeF, hC])]
theorem stF (w : World) (g : Nat) (C D : Array Value) (hC : C.size = 38) (hD : D.size = 38) (h1 : D.all (·.oneCell') = true) (hg : w.heap[g]? = some (.cells C 26 (0, 0))) : (storeR 26 (.pointer (some ⟨g, 0, none⟩)) (.agg D)).run Tryz.prog w = .ok () (w.setRow g D) := by
  unfold storeR
  simp only [Instr.storeAt, Instr.sureAddr, Sem.run_bind, Sem.run_pure, Result.andThen_ok, run_storeVar_row w g 26 26 C D hg (by rw [sizeF, hD]) (by rw [hD, hC]) h1]
theorem fgA_one (k : Int) (q : Option Addr) (n c : Nat) (sf : Bool) (o : ByteArray) (ix : Int) (sm : List Nat) (nm : ByteArray) : (fgA k (.slice q n c) sf o ix sm nm).all (·.oneCell') = true := by
  unfold fgA
  rw [Array.all_append, Array.all_append]
  simp only [Bool.and_eq_true]
  refine ⟨⟨by simp [Value.oneCell'], ?_⟩, by simp [Value.oneCell']⟩
  simp [bs, Value.oneCell']
set_option maxRecDepth 100000 in
theorem zF_lit : (#[.int .i64 0, .slice none 0 0, .bool false, .string ⟨#[]⟩, .int .i64 0, .int .u8 0, .int .u8 0, .int .u8 0, .int .u8 0, .int .u8 0, .int .u8 0, .int .u8 0, .int .u8 0, .int .u8 0, .int .u8 0, .int .u8 0, .int .u8 0, .int .u8 0, .int .u8 0, .int .u8 0, .int .u8 0, .int .u8 0, .int .u8 0, .int .u8 0, .int .u8 0, .int .u8 0, .int .u8 0, .int .u8 0, .int .u8 0, .int .u8 0, .int .u8 0, .int .u8 0, .int .u8 0, .int .u8 0, .int .u8 0, .int .u8 0, .int .u8 0, .string ⟨#[]⟩] : Array Value) = zF := by kernel_rfl
theorem layF (W : World) (D : Array Value) (hD : D.size = 38) (h1 : D.all (·.oneCell') = true) : ∃ W', (storeR 26 (.pointer (some ⟨W.heap.size, 0, none⟩)) (.agg D)).run Tryz.prog (W.alloc (.cells #[.int .i64 0, .slice none 0 0, .bool false, .string ⟨#[]⟩, .int .i64 0, .int .u8 0, .int .u8 0, .int .u8 0, .int .u8 0, .int .u8 0, .int .u8 0, .int .u8 0, .int .u8 0, .int .u8 0, .int .u8 0, .int .u8 0, .int .u8 0, .int .u8 0, .int .u8 0, .int .u8 0, .int .u8 0, .int .u8 0, .int .u8 0, .int .u8 0, .int .u8 0, .int .u8 0, .int .u8 0, .int .u8 0, .int .u8 0, .int .u8 0, .int .u8 0, .int .u8 0, .int .u8 0, .int .u8 0, .int .u8 0, .int .u8 0, .int .u8 0, .string ⟨#[]⟩] 26)) = .ok () W' ∧ W'.heap[W.heap.size]? = some (.cells D 26 (0, 0)) ∧ Below W.heap.size W W' := by
  rw [zF_lit]
  have h := stF (W.alloc (.cells zF 26)) W.heap.size zF D zF_size hD h1 (heap_alloc_new _ _)
  exact ⟨_, h, setRow_heap _ _ _ _ _ _ (heap_alloc_new _ _), below_setRow ((Below.refl _ W).alloc (Nat.le_refl _) _) (Nat.le_refl _) _⟩
set_option maxRecDepth 100000 in
theorem results_F2 {fn : Func} {p u : Tmp} (h : fn.results = #[.cell p 26, .tmp u]) (tmps : Array Value) (w : World) (g : Nat) (C : Array Value) (hC : C.size = 38)
    (hp : tmps.getD p undef = .pointer (some ⟨g, 0, none⟩)) (hg : w.heap[g]? = some (.cells C 26 (0, 0))) :
    (results fn tmps).run Tryz.prog w = .ok (.tuple #[.agg C, tmps.getD u undef]) w := by
  have hp' : tmps[p]?.getD undef = .pointer (some ⟨g, 0, none⟩) := by simpa using hp
  simp [results, h, hp', asAddr, run_loadVar_row w g 26 26 C (0, 0) _ hg underF rfl (by rw [sizeF, hC])]
set_option maxRecDepth 100000 in
theorem results_F3 {fn : Func} {p u v : Tmp} (h : fn.results = #[.cell p 26, .tmp u, .tmp v]) (tmps : Array Value) (w : World) (g : Nat) (C : Array Value) (hC : C.size = 38)
    (hp : tmps.getD p undef = .pointer (some ⟨g, 0, none⟩)) (hg : w.heap[g]? = some (.cells C 26 (0, 0))) :
    (results fn tmps).run Tryz.prog w = .ok (.tuple #[.agg C, tmps.getD u undef, tmps.getD v undef]) w := by
  have hp' : tmps[p]?.getD undef = .pointer (some ⟨g, 0, none⟩) := by simpa using hp
  simp [results, h, hp', asAddr, run_loadVar_row w g 26 26 C (0, 0) _ hg underF rfl (by rw [sizeF, hC])]
set_option maxRecDepth 100000 in
theorem bt0_x (a0 a1 a2 a3 a4 a5 a6 a7 a8 a9 a10 a11 a12 a13 a14 a15 a16 a17 a18 a19 a20 a21 a22 a23 a24 a25 a26 a27 a28 a29 a30 a31 : Nat) (n : ByteArray) : Tryz.prog.built 26 [(5, .agg (bs [a0, a1, a2, a3, a4, a5, a6, a7, a8, a9, a10, a11, a12, a13, a14, a15, a16, a17, a18, a19, a20, a21, a22, a23, a24, a25, a26, a27, a28, a29, a30, a31])), (6, .string n)] = some (fgA 0 (.slice none 0 0) false ⟨#[]⟩ 0 [a0, a1, a2, a3, a4, a5, a6, a7, a8, a9, a10, a11, a12, a13, a14, a15, a16, a17, a18, a19, a20, a21, a22, a23, a24, a25, a26, a27, a28, a29, a30, a31] n) := by kernel_rfl
set_option maxRecDepth 100000 in
theorem bt0 (s : List Nat) (hl : s.length = 32) (n : ByteArray) : Tryz.prog.built 26 [(5, .agg (bs s)), (6, .string n)] = some (fgA 0 (.slice none 0 0) false ⟨#[]⟩ 0 s n) := by
  match s, hl with
  | [a0, a1, a2, a3, a4, a5, a6, a7, a8, a9, a10, a11, a12, a13, a14, a15, a16, a17, a18, a19, a20, a21, a22, a23, a24, a25, a26, a27, a28, a29, a30, a31], _ => exact bt0_x a0 a1 a2 a3 a4 a5 a6 a7 a8 a9 a10 a11 a12 a13 a14 a15 a16 a17 a18 a19 a20 a21 a22 a23 a24 a25 a26 a27 a28 a29 a30 a31 n
def buildF (ps : Array (Nat × Value)) : Sem Value := Instr.build 26 ps
theorem toBuildF (ps : Array (Nat × Value)) : Instr.build 26 ps = buildF ps := rfl
theorem run_buildF0 (w : World) (s : List Nat) (hl : s.length = 32) (n : ByteArray) : (buildF #[(5, .agg (bs s)), (6, .string n)]).run Tryz.prog w = .ok (.agg (fgA 0 (.slice none 0 0) false ⟨#[]⟩ 0 s n)) w := run_build w 26 _ _ (bt0 s hl n)
set_option maxRecDepth 100000 in
theorem size24 : (Tryz.prog.info? 24).map (·.size) = some 32 := by kernel_rfl
theorem toSl24 (v : Value) : Instr.loadAt 24 v = loadR 24 v := rfl
theorem run_ldS (w : World) (g off : Nat) (h : List Nat) (hg : ∀ j, j < h.length → w.cell? ⟨g, off + j, none⟩ = some (.int .u8 ((h.getD j 0 : Nat) : Int))) (hl : h.length = 32) : (loadR 24 (.pointer (some ⟨g, off, none⟩))).run Tryz.prog w = .ok (.agg (bs h)) w :=
  run_loadAt_mid w g off 24 (h.map fun (b : Nat) => Value.int .u8 (b : Int)) _ (fun j v hv => by
    have hj : j < h.length := by have := (List.getElem?_eq_some_iff.1 hv).1; simpa using this
    rw [hg j hj]
    simp [hj] at hv
    rw [← hv]
    simp [List.getD, hj]) Tryz.underlying24 rfl (by rw [size24, List.length_map, hl])
set_option maxRecDepth 100000 in
theorem run_arrS (w : World) (a : Addr) (cap : Nat) : (Instr.arrayAt 24 (.slice (some a) 32 cap)).run Tryz.prog w = .ok (.pointer (some a)) w := by
  simp [Instr.arrayAt, Sem.run_bind, run_underlying Tryz.underlying24]
/-- The text's pieces. -/
theorem bl_ext (s : ByteArray) (i j : Nat) : bl (s.extract i j) = ((bl s).drop i).take (j - i) := by
  unfold bl
  rw [ByteArray.data_extract, Array.toList_extract, List.extract_eq_take_drop]
theorem byt_right (a b : ByteArray) (j : Nat) (h : j < b.size) : byt (a ++ b) (a.size + j) = byt b j := by
  have h1 := bl_at (a ++ b) (a.size + j) (by rw [app_size]; omega)
  rw [bl_app, List.getElem?_append_right (by rw [bl_len]; omega), bl_len, Nat.add_sub_cancel_left, bl_at b j h] at h1
  have h2 := congrArg UInt8.toNat (Option.some.inj h1)
  rw [UInt8.toNat_ofNat', UInt8.toNat_ofNat', Nat.mod_eq_of_lt (byt_lt _ _), Nat.mod_eq_of_lt (byt_lt _ _)] at h2
  exact h2.symm
structure Sp (f : Fg) (s : ByteArray) (H : Nat) : Prop where
  sz : s.size = H + 86 + f.nm.size
  e0 : s.extract 0 H = headT f
  e1 : s.extract (H + 8) (H + 72) = str (hexL f.sm)
  e2 : s.extract (H + 86) s.size = f.nm
  last : byt s (H + 85) = 58
  rest : ∀ j, H + 85 < j → j < s.size → byt s j ≠ 58
theorem sp_of {f : Fg} (ok : Ok f) : Sp f (sayT f) (headT f).size := by
  have zc8 : c8.size = 8 := rfl
  have zc14 : c14.size = 14 := rfl
  have zh : (str (hexL f.sm)).size = 64 := by rw [str_size, hexL_len, f.hl]
  have z4 : (headT f ++ c8 ++ str (hexL f.sm) ++ c14).size = (headT f).size + 86 := by rw [app_size, app_size, app_size, zc8, zc14, zh]
  have z3 : (headT f ++ c8 ++ str (hexL f.sm)).size = (headT f).size + 72 := by rw [app_size, app_size, zc8, zh]
  have z2 : (headT f ++ c8).size = (headT f).size + 8 := by rw [app_size, zc8]
  have hz : (sayT f).size = (headT f).size + 86 + f.nm.size := by unfold sayT; rw [app_size, z4]
  refine ⟨hz, ?_, ?_, ?_, ?_, ?_⟩
  · apply bl_inj
    rw [bl_ext, List.drop_zero, Nat.sub_zero]
    unfold sayT
    rw [bl_app, bl_app, bl_app, bl_app, List.append_assoc, List.append_assoc, List.append_assoc]
    exact List.take_left' (bl_len _)
  · apply bl_inj
    rw [bl_ext]
    unfold sayT
    rw [bl_app, bl_app, bl_app (headT f ++ c8), List.append_assoc, List.append_assoc, List.drop_left' (by rw [bl_len, z2])]
    exact List.take_left' (by rw [bl_len, zh]; omega)
  · unfold sayT
    exact ext_right _ _ _ z4
  · unfold sayT
    rw [byt_app _ _ _ (by rw [z4]; omega)]
    have := byt_right (headT f ++ c8 ++ str (hexL f.sm)) c14 13 (by rw [zc14]; omega)
    rw [z3] at this
    rw [show (headT f).size + 85 = (headT f).size + 72 + 13 by omega, this]
    decide
  · intro j h1 h2
    rw [hz] at h2
    obtain ⟨i, rfl⟩ : ∃ i, j = (headT f).size + 86 + i := ⟨j - ((headT f).size + 86), by omega⟩
    unfold sayT
    rw [← z4, byt_right _ _ _ (by omega)]
    intro e
    have := okN_may ok.nm i (by omega)
    rw [e] at this
    exact absurd this (by decide)
attribute [local go_sem ↓] toFl to26s toBuildF toSl24
set_option maxRecDepth 100000 in
set_option maxHeartbeats 3200000 in
theorem finger_read (f : Fg) (ok : Ok f) (w : World) (hk : Tk w) (hx : Tx w) :
    Calls Tryz.prog 7 #[.string (sayT f)] w fun e w' => ∃ v, e = .returned (.tuple #[.agg (fgA f.k v f.self f.out f.ix f.sm f.nm), .bool true]) ∧ w'.ownsRow w.heap.size 51 21 v (dd (srt f.L)).length (cells (dd (srt f.L))) ∧ Below w.heap.size w w' := by
  have S := sp_of ok
  have hH := head_size ok
  have hn := okN_size _ ok.nm
  obtain ⟨s, hs⟩ : ∃ s, s = sayT f := ⟨_, rfl⟩
  obtain ⟨H, hHd⟩ : ∃ H, H = (headT f).size := ⟨_, rfl⟩
  rw [← hs, ← hHd] at S
  rw [← hHd] at hH
  rw [← hs]
  have hz := S.sz
  obtain ⟨W0, hW0⟩ : ∃ W0, w.alloc (.cells #[.int .i64 0, .slice none 0 0, .bool false, .string ⟨#[]⟩, .int .i64 0, .int .u8 0, .int .u8 0, .int .u8 0, .int .u8 0, .int .u8 0, .int .u8 0, .int .u8 0, .int .u8 0, .int .u8 0, .int .u8 0, .int .u8 0, .int .u8 0, .int .u8 0, .int .u8 0, .int .u8 0, .int .u8 0, .int .u8 0, .int .u8 0, .int .u8 0, .int .u8 0, .int .u8 0, .int .u8 0, .int .u8 0, .int .u8 0, .int .u8 0, .int .u8 0, .int .u8 0, .int .u8 0, .int .u8 0, .int .u8 0, .int .u8 0, .int .u8 0, .string ⟨#[]⟩] 26) = W0 := ⟨_, rfl⟩
  have b0 : Below w.heap.size w W0 := by rw [← hW0]; exact (Below.refl _ w).alloc (Nat.le_refl _) _
  have R0 : Hid (W0.heap[w.heap.size]? = some (.cells zF 26 (0, 0))) := by show _ = _; rw [← hW0, zF_lit]; exact heap_alloc_new _ _
  have z0 : W0.heap.size = w.heap.size + 1 := by rw [← hW0]; simp
  have X0 : Tx W0 := hx.below b0 hx.sz
  have CL : Hid _ := last_any s (H + 85) (by omega) (by omega) S.last S.rest W0
  have CU : Hid (Calls Tryz.prog 13 #[.string (s.extract (H + 8) (H + 72))] W0 fun e w' => Below W0.heap.size W0 w' ∧ ∃ v, e = .returned (.tuple #[v, .int .i64 0, .int .i64 0]) ∧ w'.ownsRow W0.heap.size 5 1 v f.sm.length (bs f.sm).toList) := by
    rw [S.e1]; exact unhex_b f.sm f.hb (by rw [f.hl]; omega) W0 X0
  have HE2 : Hid (s.extract (H + 86) s.size = f.nm) := S.e2
  have HE0 : Hid (s.extract 0 H = headT f) := S.e0
  have p1 : IntKind.i64.wrap (((H + 85 : Nat) : Int) + 1) = ((H + 86 : Nat) : Int) := by rw [IntKind.wrap_i64]; omega
  have p2 : IntKind.i64.wrap (((H + 86 : Nat) : Int) - 86) = (H : Int) := by rw [IntKind.wrap_i64]; omega
  have p3 : IntKind.i64.wrap ((H : Int) + 8) = ((H + 8 : Nat) : Int) := by rw [IntKind.wrap_i64]; omega
  have p4 : IntKind.i64.wrap (((H + 8 : Nat) : Int) + 64) = ((H + 72 : Nat) : Int) := by rw [IntKind.wrap_i64]; omega
  have p5 : ¬ ((H : Int) < 0) := by omega
  have HW0 : Hid _ := hW0
  have HB0 : Hid (Below w.heap.size w W0) := b0
  have HX0 : Hid (Tx W0) := X0
  have HK0 : Hid (Tk W0) := hk.below b0 hk.sz
  have HOK : Hid (Ok f) := ok
  have HH : Hid (H = (headT f).size ∧ s.size = H + 86 + f.nm.size ∧ 4 < w.heap.size) := ⟨hHd, hz, hx.sz⟩
  have i1 : ((H + 8 : Nat) : Int) ≤ ((H + 72 : Nat) : Int) := by omega
  have i2 : ((H + 72 : Nat) : Int) ≤ (s.size : Int) := by omega
  have i3 : (0 : Int) ≤ ((H + 8 : Nat) : Int) := by omega
  have i4 : ((H + 86 : Nat) : Int) ≤ (s.size : Int) := by omega
  have i5 : (0 : Int) ≤ ((H + 86 : Nat) : Int) := by omega
  have i6 : (H : Int) ≤ (s.size : Int) := by omega
  have i7 : (0 : Int) ≤ (H : Int) := by omega
  clear S hH hn hs hz hW0 b0 X0 hk hx ok hHd
  obtain ⟨n85, hn85⟩ : ∃ n, n = H + 85 := ⟨_, rfl⟩
  obtain ⟨n86, hn86⟩ : ∃ n, n = H + 86 := ⟨_, rfl⟩
  obtain ⟨n8, hn8⟩ : ∃ n, n = H + 8 := ⟨_, rfl⟩
  obtain ⟨n72, hn72⟩ : ∃ n, n = H + 72 := ⟨_, rfl⟩
  rw [← hn85] at CL p1
  rw [← hn86] at p1 p2 i4 i5 HE2
  rw [← hn8] at p3 p4 i1 i3 CU
  rw [← hn72] at p4 i1 i2 CU
  clear hn85 hn86 hn8 hn72
  go_enter Tryz.func7, Tryz.ntmps7
  go_wp2_with fail
  rw [HW0.out]
  refine Calls.mono CL.out ?_
  rintro e W1 ⟨rfl, hw1⟩
  have hw2 := hw1.symm
  subst hw2
  clear CL HW0
  go_wp2_with fail
  refine Calls.mono CU.out ?_
  rintro e W1 ⟨b1, v, rfl, own⟩
  rcases (byl_own own).1 with ⟨-, hnil⟩ | ⟨gs, off, cap, hv, hc1, hc2, hgs, hcell⟩
  · exfalso
    have := f.hl
    rw [hnil] at this
    cases this
  rw [f.hl] at hv
  subst hv
  obtain ⟨D, hD⟩ : ∃ D, D = fgA 0 (.slice none 0 0) false ⟨#[]⟩ 0 f.sm f.nm := ⟨_, rfl⟩
  have hDs : D.size = 38 := by rw [hD]; exact fgA_size _ _ _ _ _ _ _ f.hl
  have hD1 : D.all (·.oneCell') = true := by rw [hD]; exact fgA_one _ _ _ _ _ _ _ _ _
  have l1 := run_ldS W1.drew gs off f.sm hcell f.hl
  have l2 := run_ldS (W1.alloc (.cells #[.int .i64 0, .slice none 0 0, .bool false, .string ⟨#[]⟩, .int .i64 0, .int .u8 0, .int .u8 0, .int .u8 0, .int .u8 0, .int .u8 0, .int .u8 0, .int .u8 0, .int .u8 0, .int .u8 0, .int .u8 0, .int .u8 0, .int .u8 0, .int .u8 0, .int .u8 0, .int .u8 0, .int .u8 0, .int .u8 0, .int .u8 0, .int .u8 0, .int .u8 0, .int .u8 0, .int .u8 0, .int .u8 0, .int .u8 0, .int .u8 0, .int .u8 0, .int .u8 0, .int .u8 0, .int .u8 0, .int .u8 0, .int .u8 0, .int .u8 0, .string ⟨#[]⟩] 26)).drew gs off f.sm (fun j hj => (cell_al W1 gs (off + j) hgs _).trans (hcell j hj)) f.hl
  have aA : ∀ W, (Instr.arrayAt 24 (.slice (some ⟨gs, off, none⟩) 32 cap)).run Tryz.prog W = .ok (.pointer (some ⟨gs, off, none⟩)) W := fun W => run_arrS W _ _
  have bF : ∀ W, (buildF #[(5, .agg (bs f.sm)), (6, .string (s.extract n86 s.size))]).run Tryz.prog W = .ok (.agg D) W := fun W => by rw [HE2.out, hD]; exact run_buildF0 W f.sm f.hl f.nm
  obtain ⟨W2, s2, r2, b2⟩ := layF W1.drew D hDs hD1
  have s2' : (storeR 26 (.pointer (some ⟨W1.heap.size, 0, none⟩)) (.agg D)).run Tryz.prog (W1.alloc (.cells #[.int .i64 0, .slice none 0 0, .bool false, .string ⟨#[]⟩, .int .i64 0, .int .u8 0, .int .u8 0, .int .u8 0, .int .u8 0, .int .u8 0, .int .u8 0, .int .u8 0, .int .u8 0, .int .u8 0, .int .u8 0, .int .u8 0, .int .u8 0, .int .u8 0, .int .u8 0, .int .u8 0, .int .u8 0, .int .u8 0, .int .u8 0, .int .u8 0, .int .u8 0, .int .u8 0, .int .u8 0, .int .u8 0, .int .u8 0, .int .u8 0, .int .u8 0, .int .u8 0, .int .u8 0, .int .u8 0, .int .u8 0, .int .u8 0, .int .u8 0, .string ⟨#[]⟩] 26)).drew = .ok () W2 := s2
  have b12 : Below W1.heap.size W1 W2 := ⟨b2.os, b2.tape, b2.output, b2.size, b2.block⟩
  have b02 : Below w.heap.size w W2 := (HB0.out.trans (b1.mono HB0.out.size)).trans (b12.mono (Nat.le_trans HB0.out.size b1.size))
  have HB2 : Hid (Below w.heap.size w W2) := b02
  have zz : w.heap.size + 1 ≤ W1.heap.size := by have := b1.size; omega
  have R2 : Hid (W2.heap[w.heap.size]? = some (.cells zF 26 (0, 0))) := (b12.block _ (by omega)).trans ((b1.block _ (by omega)).trans R0.out)
  have HG2 : Hid (W2.heap[W1.heap.size]? = some (.cells (fgA 0 (.slice none 0 0) false ⟨#[]⟩ 0 f.sm f.nm) 26 (0, 0))) := by show _ = _; rw [← hD]; exact r2
  have HX2 : Hid (Tx W2) := HX0.out.below ((b1.trans (b12.mono b1.size))) HX0.out.sz
  have HK2 : Hid (Tk W2) := HK0.out.below ((b1.trans (b12.mono b1.size))) HK0.out.sz
  have HZZ : Hid (w.heap.size + 1 ≤ W1.heap.size) := zz
  clear CU own hc1 hc2 hcell s2 r2 b2 b12 b02 R0 HX0 HK0 b1 zz hDs hD1 z0 hD
  go_wp2_with fail
  go_region
  clear l1 l2 bF s2'
  have CH : Hid (Calls Tryz.prog 14 #[.pointer (some ⟨W1.heap.size, 0, none⟩), .string (s.extract 0 H)] W2 (HdP f f.sm f.nm W1.heap.size W2)) := by
    rw [HE0.out]
    exact hd_any f HOK.out f.sm f.nm W1.heap.size W2 HK2.out HX2.out (by have := HZZ.out; have := HH.out.2.2; omega) HG2.out
  go_wp2_with fail
  refine Calls.mono CH.out ?_
  rintro e W3 ⟨rfl, v, r3, hl3, t3⟩
  obtain ⟨oo, cc, hv, -, -⟩ := (own_Ls hl3).form
  have hzz := HZZ.out
  have hb2 := HB2.out.size
  have s12 : W1.heap.size < W2.heap.size := (Array.getElem?_eq_some_iff.1 HG2.out).1
  obtain ⟨C, hC⟩ : ∃ C, C = fgA f.k v f.self f.out f.ix f.sm f.nm := ⟨_, rfl⟩
  have hCs : C.size = 38 := by rw [hC]; exact fgA_size _ _ _ _ _ _ _ f.hl
  have hC1 : C.all (·.oneCell') = true := by rw [hC, hv]; exact fgA_one _ _ _ _ _ _ _ _ _
  rw [← hC] at r3
  have l3 := ldF W3 W1.heap.size C hCs r3
  have R3 : W3.heap[w.heap.size]? = some (.cells zF 26 (0, 0)) := (t3.block _ (by omega) (by omega)).trans R2.out
  have s3 := stF W3 w.heap.size zF C zF_size hCs hC1 R3
  have HR4 : Hid ((W3.setRow w.heap.size C).heap[w.heap.size]? = some (.cells C 26 (0, 0))) := setRow_heap _ _ _ _ _ _ R3
  have b23 : Below w.heap.size W2 W3 := t3.below (by omega) hb2
  have HB4 : Hid (Below w.heap.size w (W3.setRow w.heap.size C)) := below_setRow (HB2.out.trans b23) (Nat.le_refl _) _
  have HO4 : Hid ((W3.setRow w.heap.size C).ownsRow w.heap.size 51 21 v (dd (srt f.L)).length (cells (dd (srt f.L)))) := own_down (own_row' hl3 (by omega) C) hb2
  have HC : Hid (C = fgA f.k v f.self f.out f.ix f.sm f.nm ∧ C.size = 38) := ⟨hC, hCs⟩
  clear CH hv hzz hb2 s12 hC hCs hC1 r3 R3 b23 t3 hl3 aA
  go_wp2
  exact bodyPost_ret (results_F2 rfl _ _ w.heap.size C HC.out.2 rfl HR4.out) rfl ⟨v, by rw [← HC.out.1]; rfl, HO4.out, HB4.out⟩
end Go.Proofs.YtffghlbgbfhfdaaGreatDoor

/- Hear and said, of fingers that may be said. -/
namespace Go.Proofs.YtffghlbgbfhfdaaGreatDoor
open Go.RowKit Go.Shelf Go.Sort
/-- Sorted, none twice. -/
theorem sort_up (L : List Lb) : (dd (srt L)).Pairwise (fun a b => cf a b < 0) ∧ ∀ x, x ∈ dd (srt L) ↔ x ∈ L := by
  have ht : ∀ x y z, ltOf cf x y = true → ltOf cf y z = true → ltOf cf x z = true := swo.trans
  have hs : (srt L).Pairwise fun a b => ltOf cf b a = false := by
    have := List.pairwise_mergeSort (le := fun x y => !(ltOf cf) y x) (by
      intro a b c h1 h2
      simp only [Bool.not_eq_true'] at h1 h2 ⊢
      exact swo.ntrans c b a h2 h1) (by
      intro a b
      simp only [Bool.or_eq_true, Bool.not_eq_true']
      by_cases e : ltOf cf b a = true
      · right
        by_cases e2 : ltOf cf a b = true
        · have := ht _ _ _ e e2
          rw [swo.irrefl] at this
          cases this
        · simpa using e2
      · left
        simpa using e) L
    refine this.imp ?_
    intro a b h
    simpa using h
  refine ⟨(dd_sorted ltT ht hs).imp ?_, fun x => ?_⟩
  · intro a b h
    exact of_decide_eq_true h
  · rw [dd_mem]
    exact List.mem_mergeSort
theorem dd_idem (L : List Lb) : dd (srt (dd (srt L))) = dd (srt L) := by
  have h1 := sort_up (dd (srt L))
  have h2 := sort_up L
  have hl : ∀ a b : Lb, cf a b < 0 → ltOf cf a b = true := fun a b h => by unfold ltOf; exact decide_eq_true h
  exact uniq (lt := ltOf cf) swo.irrefl swo.trans (h1.1.imp fun {a b} h => hl a b h) (h2.1.imp fun {a b} h => hl a b h) h1.2
/-- A finger with its references sorted. -/
def reS (f : Fg) (v : Value) : Fg := { f with v := v, L := dd (srt f.L), hn := Nat.le_trans (dd_len _) (by rw [srt_len]; exact f.hn), hL := fun x hx => f.hL x (by rw [dd_mem] at hx; exact List.mem_mergeSort.1 hx) }
theorem reS_fing (f : Fg) (v : Value) : fing (reS f v) = fgA f.k v f.self f.out f.ix f.sm f.nm := rfl
theorem reS_say (f : Fg) (v : Value) : sayT (reS f v) = sayT f := by
  have h : headT (reS f v) = headT f := by
    show kwV f.k ++ refsT (dd (srt (dd (srt f.L)))) ++ tlT (reS f v) = _
    rw [dd_idem]
    rfl
  unfold sayT
  rw [h]
  rfl
theorem reS_ok {f : Fg} (ok : Ok f) (v : Value) : Ok (reS f v) := by
  obtain ⟨u1, u2, u3, u4⟩ := un_facts ok
  have DO := dd_ok ok
  refine ⟨ok.k1, ok.k4, ?_, ok.nm, ok.out, ok.i0, ok.i6, DO.1, fun x hx => (DO.2 x hx).1⟩
  have h := ok.un
  unfold unV at h ⊢
  simp only [Bool.or_eq_false_iff, Bool.and_eq_false_imp, decide_eq_true_eq, decide_eq_false_iff_not] at h ⊢
  obtain ⟨⟨⟨h1, h2⟩, h3⟩, h4⟩ := h
  refine ⟨⟨⟨fun q => ?_, h2⟩, h3⟩, h4⟩
  have e : f.L = [] := u1 q
  show ¬ 0 < (dd (srt f.L)).length
  rw [e, dd_none]
  decide
theorem badN_zero : ∀ L : List Lb, (∀ x ∈ L, okN x.s = 0) → badN L = 0
  | [], _ => rfl
  | x :: r, h => by
    rw [badN, if_pos (h x (by simp))]
    exact badN_zero r (fun y hy => h y (by simp [hy]))
theorem chk_ok {f : Fg} (ok : Ok f) : chkV f = 0 := by
  unfold chkV
  rw [if_neg (fun h => h ⟨ok.k1, ok.k4⟩), if_neg (by rw [ok.un]; decide), if_neg (fun h => h ok.nm), if_neg (fun h => h.2 (ok.out h.1)), if_neg (fun h => h ⟨ok.i0, ok.i6⟩)]
  unfold refV
  rw [if_neg (by have := ok.ln; omega)]
  exact badN_zero _ ok.rf
attribute [local go_sem ↓] toFl to26s toBuildF
set_option maxRecDepth 100000 in
set_option maxHeartbeats 3200000 in
theorem hear_ok (f : Fg) (ok : Ok f) (w : World) (hk : Tk w) (hx : Tx w) :
    Calls Tryz.prog 4 #[.string (sayT f)] w fun e w' => ∃ v, e = .returned (.tuple #[.agg (fgA f.k v f.self f.out f.ix f.sm f.nm), .int .i64 0]) ∧ w'.ownsRow w.heap.size 51 21 v (dd (srt f.L)).length (cells (dd (srt f.L))) ∧ Below w.heap.size w w' := by
  obtain ⟨s, hs⟩ : ∃ s, s = sayT f := ⟨_, rfl⟩
  obtain ⟨W0, hW0⟩ : ∃ W0, w.alloc (.cells #[.int .i64 0, .slice none 0 0, .bool false, .string ⟨#[]⟩, .int .i64 0, .int .u8 0, .int .u8 0, .int .u8 0, .int .u8 0, .int .u8 0, .int .u8 0, .int .u8 0, .int .u8 0, .int .u8 0, .int .u8 0, .int .u8 0, .int .u8 0, .int .u8 0, .int .u8 0, .int .u8 0, .int .u8 0, .int .u8 0, .int .u8 0, .int .u8 0, .int .u8 0, .int .u8 0, .int .u8 0, .int .u8 0, .int .u8 0, .int .u8 0, .int .u8 0, .int .u8 0, .int .u8 0, .int .u8 0, .int .u8 0, .int .u8 0, .int .u8 0, .string ⟨#[]⟩] 26) = W0 := ⟨_, rfl⟩
  have b0 : Below w.heap.size w W0 := by rw [← hW0]; exact (Below.refl _ w).alloc (Nat.le_refl _) _
  have R0 : Hid (W0.heap[w.heap.size]? = some (.cells zF 26 (0, 0))) := by show _ = _; rw [← hW0, zF_lit]; exact heap_alloc_new _ _
  have z0 : Hid (W0.heap.size = w.heap.size + 1) := by show _ = _; rw [← hW0]; simp
  have CF : Hid (Calls Tryz.prog 7 #[.string s] W0 fun e w' => ∃ v, e = .returned (.tuple #[.agg (fgA f.k v f.self f.out f.ix f.sm f.nm), .bool true]) ∧ w'.ownsRow W0.heap.size 51 21 v (dd (srt f.L)).length (cells (dd (srt f.L))) ∧ Below W0.heap.size W0 w') := by rw [hs]; exact finger_read f ok W0 (hk.below b0 hk.sz) (hx.below b0 hx.sz)
  have HSY : Hid (∀ v W, Tk W → Tx W → Ls v (dd (srt f.L)) W → Calls Tryz.prog 8 #[.agg (fgA f.k v f.self f.out f.ix f.sm f.nm)] W fun e w' => e = .returned (.tuple #[.string s, .int .i64 0]) ∧ Below W.heap.size W w') := fun v W h1 h2 h3 => by
    have := say_any (reS f v) W h1 h2 h3
    rw [reS_fing, sayV, if_pos (chk_ok (reS_ok ok v)), reS_say, ← hs] at this
    exact this
  have HW0 : Hid _ := hW0
  have HB0 : Hid (Below w.heap.size w W0) := b0
  have HK0 : Hid (Tk W0 ∧ Tx W0) := ⟨hk.below b0 hk.sz, hx.below b0 hx.sz⟩
  rw [← hs]
  clear hs hW0 b0 hk hx ok
  go_enter Tryz.func4, Tryz.ntmps4
  go_wp2_with fail
  rw [HW0.out]
  refine Calls.mono CF.out ?_
  rintro e W1 ⟨v, rfl, own, b1⟩
  obtain ⟨oo, cc, hv, -, -⟩ := (own_Ls own).form
  obtain ⟨C, hC⟩ : ∃ C, C = fgA f.k v f.self f.out f.ix f.sm f.nm := ⟨_, rfl⟩
  have hCs : C.size = 38 := by rw [hC]; exact fgA_size _ _ _ _ _ _ _ f.hl
  have hC1 : C.all (·.oneCell') = true := by rw [hC, hv]; exact fgA_one _ _ _ _ _ _ _ _ _
  rw [← hC]
  obtain ⟨W2, s2, r2, b2⟩ := layF W1 C hCs hC1
  have l2 := ldF W2 W1.heap.size C hCs r2
  have b02 : Below W0.heap.size W0 W2 := b1.trans (b2.mono b1.size)
  have o2 := own_below own b2
  have CS : Hid (Calls Tryz.prog 8 #[.agg C] W2 fun e w' => e = .returned (.tuple #[.string s, .int .i64 0]) ∧ Below W2.heap.size W2 w') := by rw [hC]; exact HSY.out v W2 (HK0.out.1.below b02 HK0.out.1.sz) (HK0.out.2.below b02 HK0.out.2.sz) (own_Ls o2)
  have HC : Hid (C = fgA f.k v f.self f.out f.ix f.sm f.nm ∧ C.size = 38 ∧ C.all (·.oneCell') = true) := ⟨hC, hCs, hC1⟩
  have HR2 : Hid (W2.heap[W1.heap.size]? = some (.cells C 26 (0, 0)) ∧ Below W0.heap.size W0 W2 ∧ W0.heap.size ≤ W1.heap.size) := ⟨r2, b02, b1.size⟩
  have HO2 : Hid _ := o2
  clear CF own hv hC hCs hC1 r2 b2 b02 o2 b1 HSY HW0
  go_wp2_with fail
  refine Calls.mono CS.out ?_
  rintro e W3 ⟨rfl, b3⟩
  have r3 : W3.heap[W1.heap.size]? = some (.cells C 26 (0, 0)) := (b3.block _ (Array.getElem?_eq_some_iff.1 HR2.out.1).1).trans HR2.out.1
  have l3 := ldF W3 W1.heap.size C HC.out.2.1 r3
  have b03 : Below W0.heap.size W0 W3 := HR2.out.2.1.trans (b3.mono HR2.out.2.1.size)
  have R3 : W3.heap[w.heap.size]? = some (.cells zF 26 (0, 0)) := (b03.block _ (by have := z0.out; omega)).trans R0.out
  have s3 := stF W3 w.heap.size zF C zF_size HC.out.2.1 HC.out.2.2 R3
  have HR4 : Hid ((W3.setRow w.heap.size C).heap[w.heap.size]? = some (.cells C 26 (0, 0))) := setRow_heap _ _ _ _ _ _ R3
  have HB4 : Hid (Below w.heap.size w (W3.setRow w.heap.size C)) := below_setRow (HB0.out.trans (b03.mono HB0.out.size)) (Nat.le_refl _) _
  have HO4 : Hid ((W3.setRow w.heap.size C).ownsRow w.heap.size 51 21 v (dd (srt f.L)).length (cells (dd (srt f.L)))) := own_down (own_row' (own_below HO2.out b3) (by have := z0.out; omega) C) HB0.out.size
  clear CS b3 r3 b03 R3 HR2 HO2 R0 s2 l2
  go_wp2
  exact bodyPost_ret (results_F2 rfl _ _ w.heap.size C HC.out.2.1 rfl HR4.out) rfl ⟨v, by rw [← HC.out.1]; rfl, HO4.out, HB4.out⟩
end Go.Proofs.YtffghlbgbfhfdaaGreatDoor

/- No two ways of making have one text. -/
namespace Go.Proofs.YtffghlbgbfhfdaaGreatDoor
open Go.RowKit Go.Shelf Go.Sort
def c13 : ByteArray := ⟨#[58, 47, 103, 114, 97, 102, 116, 47, 115, 116, 111, 114, 101]⟩
theorem c14_bl : bl c14 = bl c13 ++ [58] := by decide
theorem say_bl (f : Fg) : bl (sayT f) = (bl (headT f) ++ (bl c8 ++ (bl (str (hexL f.sm)) ++ bl c13))) ++ 58 :: bl f.nm := by
  unfold sayT
  rw [bl_app, bl_app, bl_app, bl_app, c14_bl]
  simp
theorem self_last {M N : List Lb} (h : M.map prT ++ [bl selfW] = N.map prT) : False := by
  have : bl selfW ∈ N.map prT := by rw [← h]; simp
  obtain ⟨x, _, hx⟩ := List.mem_map.1 this
  exact prT_self x hx
theorem say_inj {f g : Fg} (of : Ok f) (og : Ok g) (h : sayT f = sayT g) : f.k = g.k ∧ dd (srt f.L) = dd (srt g.L) ∧ f.self = g.self ∧ f.out = g.out ∧ f.ix = g.ix ∧ f.sm = g.sm ∧ f.nm = g.nm := by
  have h0 := congrArg bl h
  rw [say_bl, say_bl] at h0
  obtain ⟨h1, h2⟩ := last_inj _ _ _ _ (okN_nc of.nm) (okN_nc og.nm) h0
  have en : f.nm = g.nm := bl_inj h2
  have zf : (bl (str (hexL f.sm))).length = 64 := by rw [bl_len, str_size, hexL_len, f.hl]
  have zg : (bl (str (hexL g.sm))).length = 64 := by rw [bl_len, str_size, hexL_len, g.hl]
  obtain ⟨h3, h4⟩ := List.append_inj' h1 (by simp [zf, zg])
  have h5 := List.append_cancel_left h4
  have h6 := (List.append_inj h5 (by rw [zf, zg])).1
  have es : f.sm = g.sm := hexL_inj _ _ f.hb g.hb (str_inj (hexL_byt _ f.hb) (hexL_byt _ g.hb) (bl_inj h6))
  rw [head_bl, head_bl] at h3
  obtain ⟨h7, h8⟩ := fl_inj _ _ _ _ (kwV_nc _) (kwV_nc _) (tlP_nc of) (tlP_nc og) h3
  have ek : f.k = g.k := kwV_inj ⟨of.k1, of.k4⟩ ⟨og.k1, og.k4⟩ h7
  obtain ⟨f1, f2, f3, f4⟩ := un_facts of
  obtain ⟨g1, g2, g3, g4⟩ := un_facts og
  have Bf : ∀ x ∈ dd (srt f.L), Byt x.h := fun x hx => ((dd_ok of).2 x hx).2.2
  have Bg : ∀ x ∈ dd (srt g.L), Byt x.h := fun x hx => ((dd_ok og).2 x hx).2.2
  have k1 := of.k1
  have k4 := of.k4
  have hc : f.k = 1 ∨ f.k = 2 ∨ f.k = 3 ∨ f.k = 4 := by omega
  rcases hc with hk | hk | hk | hk
  · have a1 : f.self = false := f2 (by omega)
    have a2 : g.self = false := g2 (by omega)
    rw [tlP_12 (by omega), tlP_12 (by omega), a1, a2] at h8
    simp only [Bool.false_eq_true, if_false, List.append_nil] at h8
    exact ⟨ek, map_inj Bf Bg h8, by rw [a1, a2], by rw [f3 (by omega), g3 (by omega)], by rw [f4 (by omega), g4 (by omega)], es, en⟩
  · rw [tlP_12 (by omega), tlP_12 (by omega)] at h8
    have e1 : f.out = g.out := by rw [f3 (by omega), g3 (by omega)]
    have e2 : f.ix = g.ix := by rw [f4 (by omega), g4 (by omega)]
    cases hf : f.self <;> cases hg : g.self <;> rw [hf, hg] at h8 <;> simp only [Bool.false_eq_true, if_false, if_true, List.append_nil] at h8
    · exact ⟨ek, map_inj Bf Bg h8, rfl, e1, e2, es, en⟩
    · exact (self_last h8.symm).elim
    · exact (self_last h8).elim
    · exact ⟨ek, map_inj Bf Bg (List.append_cancel_right h8), rfl, e1, e2, es, en⟩
  · have l1 : f.L = [] := f1 (by omega)
    have l2 : g.L = [] := g1 (by omega)
    have a1 : f.self = false := f2 (by omega)
    have a2 : g.self = false := g2 (by omega)
    unfold tlP at h8
    rw [l1, l2, dd_none, a1, a2, if_pos hk, if_pos (show g.k = 3 by omega)] at h8
    simp only [Bool.false_eq_true, if_false, List.map_nil, List.nil_append, List.cons.injEq, and_true] at h8
    exact ⟨ek, by rw [l1, l2], by rw [a1, a2], bl_inj h8, by rw [f4 (by omega), g4 (by omega)], es, en⟩
  · have l1 : f.L = [] := f1 (by omega)
    have l2 : g.L = [] := g1 (by omega)
    have a1 : f.self = false := f2 (by omega)
    have a2 : g.self = false := g2 (by omega)
    unfold tlP at h8
    rw [l1, l2, dd_none, a1, a2, if_neg (show ¬ f.k = 3 by omega), if_neg (show ¬ g.k = 3 by omega), if_pos hk, if_pos (show g.k = 4 by omega)] at h8
    simp only [Bool.false_eq_true, if_false, List.map_nil, List.nil_append, List.cons.injEq, and_true] at h8
    have i1 := of.i0
    have i2 := of.i6
    have i3 := og.i0
    have i4 := og.i6
    have b1 := atoi_itoa f.ix.toNat (by omega)
    have b2 := atoi_itoa g.ix.toNat (by omega)
    rw [h8, b2] at b1
    have b3 := Option.some.inj b1
    exact ⟨ek, by rw [l1, l2], by rw [a1, a2], by rw [f3 (by omega), g3 (by omega)], by omega, es, en⟩
theorem say_same {f g : Fg} (h : f.k = g.k ∧ dd (srt f.L) = dd (srt g.L) ∧ f.self = g.self ∧ f.out = g.out ∧ f.ix = g.ix ∧ f.sm = g.sm ∧ f.nm = g.nm) : sayT f = sayT g := by
  obtain ⟨h1, h2, h3, h4, h5, h6, h7⟩ := h
  unfold sayT headT tlT
  rw [h1, h2, h3, h4, h5, h6, h7]
end Go.Proofs.YtffghlbgbfhfdaaGreatDoor
