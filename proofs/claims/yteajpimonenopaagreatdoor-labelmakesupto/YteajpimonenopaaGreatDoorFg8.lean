/- Call of any finger. -/
import Derived.Test.YteajpimonenopaaGreatDoorFgJ
import Derived.Test.YteajpimonenopaaGreatDoorFg7
import Derived.Test.YteajpimonenopaaGreatDoorBig
import Derived.Test.YteajpimonenopaaGreatDoorShTc
import Derived.Test.YteajpimonenopaaGreatDoorRd
import Derived.Lib.ConvBytes
namespace Go.Proofs.YteajpimonenopaaGreatDoor
open Go.RowKit Go.Shelf Go.Sort Go.Proofs.YteajpimonenopaaGreatDoor.Sha
theorem fold_len (s : List Nat) : (Big.fold s).length = 20 := Big.foldk_len s 32
theorem fold_byt (s : List Nat) (h : Byt s) : Byt (Big.fold s) := Big.foldk_byt s h 32
/-- The bytes of a text. -/
def bl (s : ByteArray) : List Nat := s.data.toList.map UInt8.toNat
theorem bl_len (s : ByteArray) : (bl s).length = s.size := by
  unfold bl
  rw [List.length_map, Array.length_toList]
  rfl
theorem bl_byt (s : ByteArray) : Byt (bl s) := fun x hx => by
  obtain ⟨c, _, rfl⟩ := List.mem_map.1 hx
  exact c.toNat_lt
theorem run_cvb (w : World) (s : ByteArray) (hs : s.size ≤ 1099511627776) : ∃ c w', (convert 9 22 (.string s)).run Tryz.prog w = .ok (.slice (some ⟨w.heap.size, 0, none⟩) s.size c) w' ∧ YteajpimonenopaaGreatDoor.Byl (.slice (some ⟨w.heap.size, 0, none⟩) s.size c) (bl s) w' ∧ Below w.heap.size w w' := by
  refine ⟨_, _, Lib.run_convert_string_bytes (P := Tryz.prog) w 9 22 5 s Tryz.underlying9 Tryz.underlying22 Tryz.underlying5, ?_, ?_⟩
  · refine .inr ⟨w.heap.size, 0, _, by rw [bl_len], by rw [bl_len]; exact grownCap_ge _ _ _ _, grownCap_le_maxLen _ _ _ _ (by unfold maxLen; omega), by rw [Lib.bytesWorld_size]; omega, fun j hj => ?_⟩
    rw [bl_len] at hj
    rw [Nat.zero_add, Lib.bytesWorld_cell w 5 s j hj]
    have : (bl s).getD j 0 = (s.data.toList.getD j 0).toNat := by
      unfold bl
      have h2 : j < s.data.size := hj
      simp only [List.getD, List.getElem?_map, Array.getElem?_toList, Array.getElem?_eq_getElem h2]
      rfl
    rw [this]
  · exact ⟨rfl, rfl, rfl, by rw [Lib.bytesWorld_size]; omega, fun k hk => Lib.bytesWorld_at_old w 5 s k hk⟩
theorem set_ne (l : Array Bool) (i j : Nat) (h : i ≠ j) : (l.setIfInBounds i true).getD j false = l.getD j false := by
  rw [Array.getD_eq_getD_getElem?, Array.getD_eq_getD_getElem?, Array.getElem?_setIfInBounds_ne h]
theorem set_eq (l : Array Bool) (i : Nat) (h : i < l.size) : (l.setIfInBounds i true).getD i false = true := by
  rw [Array.getD_eq_getD_getElem?, Array.getElem?_setIfInBounds_self, if_pos h]
  rfl
theorem set_up (l : Array Bool) (i j : Nat) (h : l.getD j false = true) : (l.setIfInBounds i true).getD j false = true := by
  by_cases e : i = j
  · subst e
    refine set_eq l i ?_
    rcases Nat.lt_or_ge i l.size with q | q
    · exact q
    · unfold Array.getD at h; rw [dif_neg (by omega)] at h; cases h
  · rw [set_ne l i j e]; exact h
theorem un_false (l : Array Bool) (i n : Nat) (hl : l.size = n) (hi : i < n) (h : l.getD i true = false) : l.getD i false = false := by
  rw [agetD _ _ _ (by omega)] at h ⊢
  exact h
/-- What holds until the label is laid. -/
structure Cst (f : Fg) (w W : World) : Prop where
  fs : Fs2 f w W
  row : W.heap[w.heap.size + 1]? = some (.cells none25 30 (0, 0))
  tb : Tb W
theorem Cst.below {f : Fg} {w W W' : World} (h : Cst f w W) (b : Below W.heap.size W W') : Cst f w W' :=
  ⟨h.fs.below b, (b.block _ (Array.getElem?_eq_some_iff.1 h.row).1).trans h.row, h.tb.below b h.tb.sz⟩
/-- What holds once it is. -/
def Lst (n : ByteArray) (F : List Nat) (w W : World) : Prop := Below w.heap.size w W ∧ W.heap[w.heap.size + 1]? = some (.cells (lab F n) 30 (0, 0))
structure Cs (f : Fg) (F bT : List Nat) (v : Value) (w Wd : World) (l : Array Bool) (W : World) : Prop where
  all : l.getD 7 false = true → ∀ i, i < 7 → l.getD i false = true
  two : l.getD 2 false = true → l.getD 1 false = true
  fin : l.getD 7 false = true → Lst f.nm F w W
  cst : l.getD 7 false = false → Cst f w W
  w0 : l.getD 1 false = false → W = Wd
  byl : l.getD 7 false = false → l.getD 1 false = true → YteajpimonenopaaGreatDoor.Byl v bT W
theorem Cs.open7 {f : Fg} {F bT : List Nat} {v : Value} {w Wd : World} {l : Array Bool} {W : World} (h : Cs f F bT v w Wd l W) {i : Nat} (hi : i < 7) (hl : l.size = reg8.size) (hu : l.getD i true = false) : l.getD 7 false = false := by
  cases hc : l.getD 7 false with
  | false => rfl
  | true =>
    have h1 := h.all hc i hi
    have h2 := un_false l i 9 (by rw [hl]; kernel_rfl) (by omega) hu
    rw [h2] at h1
    cases h1
theorem Cs.mv {f : Fg} {F bT : List Nat} {v : Value} {w Wd : World} {l : Array Bool} {W : World} (h : Cs f F bT v w Wd l W) (i : Nat) (h1 : i ≠ 1) (h2 : i ≠ 2) (h7 : i ≠ 7) : Cs f F bT v w Wd (l.setIfInBounds i true) W := by
  refine ⟨fun a j hj => ?_, fun a => ?_, fun a => ?_, fun a => ?_, fun a => ?_, fun a b => ?_⟩
  · rw [set_ne _ _ _ h7] at a; exact set_up _ _ _ (h.all a j hj)
  · rw [set_ne _ _ _ h2] at a; exact set_up _ _ _ (h.two a)
  · rw [set_ne _ _ _ h7] at a; exact h.fin a
  · rw [set_ne _ _ _ h7] at a; exact h.cst a
  · rw [set_ne _ _ _ h1] at a; exact h.w0 a
  · rw [set_ne _ _ _ h7] at a; rw [set_ne _ _ _ h1] at b; exact h.byl a b
/-- An operation that only makes new memory, behind the first. -/
theorem Cs.go {f : Fg} {F bT : List Nat} {v : Value} {w Wd : World} {l : Array Bool} {W W' : World} (h : Cs f F bT v w Wd l W) (i : Nat) (h1 : i ≠ 1) (h7 : i ≠ 7) (h70 : l.getD 7 false = false) (h11 : l.getD 1 false = true) (b : Below W.heap.size W W') : Cs f F bT v w Wd (l.setIfInBounds i true) W' := by
  refine ⟨fun a => ?_, fun _ => set_up _ _ _ h11, fun a => ?_, fun _ => (h.cst h70).below b, fun a => ?_, fun _ _ => (h.byl h70 h11).below b⟩
  · rw [set_ne _ _ _ h7, h70] at a; cases a
  · rw [set_ne _ _ _ h7, h70] at a; cases a
  · rw [set_ne _ _ _ h1, h11] at a; cases a
theorem rep_false (n j : Nat) : (Array.replicate n false).getD j false = false := by
  unfold Array.getD
  split
  · simp
  · rfl
theorem cs_0 {f : Fg} {F bT : List Nat} {v : Value} {w Wd : World} {k : Nat} (h : Cst f w Wd) : Cs f F bT v w Wd (Array.replicate k false) Wd :=
  ⟨fun a => (by rw [rep_false] at a; cases a), fun a => (by rw [rep_false] at a; cases a), fun a => (by rw [rep_false] at a; cases a), fun _ => h, fun _ => rfl, fun _ a => (by rw [rep_false] at a; cases a)⟩
theorem results_cell2 {fn : Func} {p u : Tmp} (h : fn.results = #[.cell p 30, .tmp u]) (tmps : Array Value) (w : World) (g : Nat) (k : List Nat) (t : ByteArray) (hk : k.length = 20)
    (hp : tmps.getD p undef = .pointer (some ⟨g, 0, none⟩)) (hg : w.heap[g]? = some (.cells (lab k t) 30 (0, 0))) :
    (results fn tmps).run Tryz.prog w = .ok (.tuple #[.agg (lab k t), tmps.getD u undef]) w := by
  have hp' : tmps[p]?.getD undef = .pointer (some ⟨g, 0, none⟩) := by simpa using hp
  simp [results, h, hp', asAddr, run_loadVar_row w g 30 30 (lab k t) (0, 0) _ hg under25 rfl (by rw [size25, lab_size k t hk])]
noncomputable def callH (f : Fg) : List Nat := Big.fold (sha (bl (sayT f)))
noncomputable def callV (f : Fg) : Value := if chkV f = 0 then .tuple #[.agg (lab (callH f) f.nm), .int .i64 0] else .tuple #[.agg none25, .int .i64 ((chkV f : Nat) : Int)]
theorem run_build0 (w : World) : (buildR #[]).run Tryz.prog w = .ok (.agg none25) w := run_build w 30 _ _ (by kernel_rfl)
attribute [local go_sem ↓] toFl to25s to25l toBuild
set_option maxRecDepth 100000 in
set_option maxHeartbeats 1000000 in
theorem call_any (f : Fg) (w : World) (hk : Tk w) (hx : Tx w) (ht : Tb w) (hv0 : Ls f.v f.L w) :
    Calls Tryz.prog 17 #[.agg (fing f)] w fun e w' => e = .returned (callV f) ∧ Below w.heap.size w w' := by
  obtain ⟨W0, hW0⟩ : ∃ W0, (w.alloc (.cells (fing f) 44)).alloc (.cells none25 30) = W0 := ⟨_, rfl⟩
  have F0 : Cst f w W0 := by
    have f0 := fs2_new f w hk hx hv0
    have b : Below (w.alloc (.cells (fing f) 44)).heap.size (w.alloc (.cells (fing f) 44)) W0 := by rw [← hW0]; exact (Below.refl _ _).alloc (Nat.le_refl _) _
    refine ⟨f0.below b, by rw [← hW0]; exact heap_alloc2_new _ _ _, (ht.below f0.st.bel ht.sz).below b (by rw [heap_size_alloc]; have := ht.sz; omega)⟩
  have ld0 := run_ldF W0 w.heap.size f F0.fs.st.row
  have C0 : Hid _ := say_any f W0 F0.fs.st.tk F0.fs.tx F0.fs.st.ls
  obtain ⟨E, hE⟩ : ∃ E, E = chkV f := ⟨_, rfl⟩
  have HF0 : Hid (Cst f w W0) := F0
  have HE : Hid (E = chkV f) := hE
  have HW0 : Hid ((w.alloc (.cells (fing f) 44)).alloc (.cells none25 30) = W0) := hW0
  have ld : (loadR 44 (.pointer (some ⟨w.heap.size, 0, none⟩))).run Tryz.prog ((w.alloc (.cells (fing f) 44)).alloc (.cells #[.int .u8 0, .int .u8 0, .int .u8 0, .int .u8 0, .int .u8 0, .int .u8 0, .int .u8 0, .int .u8 0, .int .u8 0, .int .u8 0, .int .u8 0, .int .u8 0, .int .u8 0, .int .u8 0, .int .u8 0, .int .u8 0, .int .u8 0, .int .u8 0, .int .u8 0, .int .u8 0, .string ⟨#[]⟩] 30)) = .ok (.agg (fing f)) ((w.alloc (.cells (fing f) 44)).alloc (.cells #[.int .u8 0, .int .u8 0, .int .u8 0, .int .u8 0, .int .u8 0, .int .u8 0, .int .u8 0, .int .u8 0, .int .u8 0, .int .u8 0, .int .u8 0, .int .u8 0, .int .u8 0, .int .u8 0, .int .u8 0, .int .u8 0, .int .u8 0, .int .u8 0, .int .u8 0, .int .u8 0, .string ⟨#[]⟩] 30)) := by
    have h2 : (w.alloc (.cells (fing f) 44)).alloc (.cells #[.int .u8 0, .int .u8 0, .int .u8 0, .int .u8 0, .int .u8 0, .int .u8 0, .int .u8 0, .int .u8 0, .int .u8 0, .int .u8 0, .int .u8 0, .int .u8 0, .int .u8 0, .int .u8 0, .int .u8 0, .int .u8 0, .int .u8 0, .int .u8 0, .int .u8 0, .int .u8 0, .string ⟨#[]⟩] 30) = W0 := hW0
    rw [h2]
    exact ld0
  clear ld0
  clear hE hW0 F0 hk hx ht hv0
  by_cases h0 : E = 0
  · have hv : Hid (callV f = .tuple #[.agg (lab (callH f) f.nm), .int .i64 0]) := by show _ = _; unfold callV; rw [if_pos (by rw [← HE.out]; exact h0)]
    have ok : Ok f := ok_of (by rw [← HE.out]; exact h0)
    obtain ⟨T, hT⟩ : ∃ T, T = sayT f := ⟨_, rfl⟩
    have hTs : T.size ≤ 71000 := by
      have hX : (str (hexL f.sm)).size = 64 := by rw [str_size, hexL_len]; have := f.hl; omega
      have hns := okN_size f.nm ok.nm
      have hh := head_size ok
      rw [hT, sayT, app_size, app_size, app_size, app_size, hX]
      show (headT f).size + 8 + 64 + 14 + f.nm.size ≤ 71000
      omega
    have C1 : Hid (Calls Tryz.prog 26 #[.agg (fing f)] W0 fun e w' => e = .returned (.tuple #[.string T, .int .i64 0]) ∧ Below W0.heap.size W0 w') := by
      have := C0.out
      unfold sayV at this
      rw [if_pos (by rw [← HE.out]; exact h0), ← hT] at this
      exact this
    obtain ⟨Z, hZ⟩ : ∃ Z, Z = sha (bl T) := ⟨_, rfl⟩
    obtain ⟨F, hF⟩ : ∃ F, F = Big.fold Z := ⟨_, rfl⟩
    have hFl : F.length = 20 := by rw [hF]; exact fold_len _
    have HFO : Hid (∀ W, Calls Tryz.prog 27 #[.agg (bs Z)] W fun e w' => e = .returned (.agg (bs F)) ∧ Below W.heap.size W w') := fun W => by
      have := Big.foldC_any Z (by rw [hZ]; exact sha_len _) (by rw [hZ]; exact sha_byt _) W
      rw [← hF] at this
      exact this
    have HOF : Hid (∀ W v, Tb W → YteajpimonenopaaGreatDoor.Byl v (bl T) W → Calls Tryz.prog 18 #[v] W fun e w' => e = .returned (.agg (bs Z)) ∧ Below W.heap.size W w') := fun W v h1 h2 => by
      have := of_tb (bl T) v (by rw [bl_len]; omega) (bl_byt T) W h1 h2
      rw [← hZ] at this
      exact this
    have HV : Hid (callH f = F) := by show _ = _; rw [hF, hZ, hT]; rfl
    clear hT hF hZ
    go_enter Tryz.func17, Tryz.ntmps17
    go_wp2_with fail
    show Calls _ _ _ ((w.alloc (.cells (fing f) 44)).alloc (.cells none25 30)) _
    rw [HW0.out]
    refine Calls.mono C1.out ?_
    rintro e W1 ⟨rfl, b1⟩
    clear C0 C1 ld
    have HF1 : Hid (Cst f w W1) := HF0.out.below b1
    clear b1
    obtain ⟨c, W2, rcv, hby, hb2⟩ := run_cvb W1.drew T (by omega)
    have Cd : Cst f w W1.drew := ⟨HF1.out.fs.drew, HF1.out.row, ⟨HF1.out.tb.sz, HF1.out.tb.s, HF1.out.tb.k⟩⟩
    go_wp2_with fail
    refine wp_region_vals (ops := reg8) (V := V8 w.heap.size W1.drew.heap.size T.size c T f.nm Z F) (S := Cs f F (bl T) (.slice (some ⟨W1.drew.heap.size, 0, none⟩) T.size c) w W1.drew) (by kernel_rfl) (fun i o ho => (okR_at okR8 ho).1) (fun i j o oj d ho hj q1 q2 => (okR_at okR8 ho).2.2 j oj d hj q1 q2) (fun i o d ho q => (okR_at okR8 ho).2.1 d q)
      (step8 _ (w.heap.size + 1) w.heap.size W1.drew.heap.size T.size c T f.nm Z F _ _ rfl rfl rfl
        (fun i hi l W h => by have hi := of_decide_eq_true hi; exact h.mv i hi.1 hi.2.1 hi.2.2)
        (fun l W h hs hu hd => by
          have h7 := h.open7 (by omega) hs hu
          have h1 := hd 1 (by kernel_rfl)
          exact (HOF.out W _ (h.cst h7).tb (h.byl h7 h1)).mono fun e w' ⟨a, b⟩ => ⟨a, h.go 2 (by omega) (by omega) h7 h1 b⟩)
        (fun l W h hs hu hd => by
          have h7 := h.open7 (by omega) hs hu
          have h1 := h.two (hd 2 (by kernel_rfl))
          exact (HFO.out W).mono fun e w' ⟨a, b⟩ => ⟨a, h.go 3 (by omega) (by omega) h7 h1 b⟩)
        (fun l W h hs hu hd => by
          have h7 := h.open7 (by omega) hs hu
          have h10 := un_false l 1 9 (by rw [hs]; kernel_rfl) (by omega) hu
          obtain rfl := h.w0 h10
          refine ⟨W2, rcv, ⟨fun a => ?_, fun _ => set_eq _ _ (by rw [hs]; decide +kernel), fun a => ?_, fun _ => (h.cst h7).below hb2, fun a => ?_, fun _ _ => hby⟩⟩
          · rw [set_ne _ _ _ (by omega), h7] at a; cases a
          · rw [set_ne _ _ _ (by omega), h7] at a; cases a
          · rw [set_eq _ _ (by rw [hs]; decide +kernel)] at a; cases a)
        (fun l W h hs hu hd => by
          have h7 := h.open7 (by omega) hs hu
          have := (fing_cells (h.cst h7).fs.st.row).2.2.2.2.2
          exact ⟨W, by simp [go_sem, this], h.mv 5 (by omega) (by omega) (by omega)⟩)
        (fun l W h hs hu hd => ⟨W, run_buildR W F hFl f.nm, h.mv 6 (by omega) (by omega) (by omega)⟩)
        (fun l W h hs hu hd => by
          have h7 := un_false l 7 9 (by rw [hs]; kernel_rfl) (by omega) hu
          have hc := h.cst h7
          refine ⟨_, run_storeR25 W (w.heap.size + 1) z20 F ⟨#[]⟩ f.nm hc.row rfl hFl, ⟨fun _ i hi => set_up _ _ _ ?_, fun a => ?_, fun _ => ⟨below_setRow hc.fs.st.bel (by omega) _, setRow_heap _ _ _ _ _ _ hc.row⟩, fun a => ?_, fun a => ?_, fun a => ?_⟩⟩
          · match i, hi with
            | 0, _ => exact hd 0 (by kernel_rfl)
            | 1, _ => exact hd 1 (by kernel_rfl)
            | 2, _ => exact hd 2 (by kernel_rfl)
            | 3, _ => exact hd 3 (by kernel_rfl)
            | 4, _ => exact hd 4 (by kernel_rfl)
            | 5, _ => exact hd 5 (by kernel_rfl)
            | 6, _ => exact hd 6 (by kernel_rfl)
          · exact set_up _ _ _ (hd 1 (by kernel_rfl))
          · rw [set_eq _ _ (by rw [hs]; decide +kernel)] at a; cases a
          · rw [set_up _ _ _ (hd 1 (by kernel_rfl))] at a; cases a
          · rw [set_eq _ _ (by rw [hs]; decide +kernel)] at a; cases a))
      (cs_0 Cd) (fun wE hE => ?_)
    rw [put8]
    dsimp only [V8]
    have HL : Hid (Lst f.nm F w wE) := hE.fin (by kernel_rfl)
    clear hE Cd hby rcv hb2
    go_wp2_with fail
    rw [hv.out, HV.out]
    exact bodyPost_ret (results_cell2 rfl _ _ (w.heap.size + 1) F f.nm hFl rfl HL.out.2) rfl ⟨rfl, HL.out.1⟩
  · have hv : Hid (callV f = .tuple #[.agg none25, .int .i64 (E : Int)]) := by show _ = _; unfold callV; rw [if_neg (by rw [← HE.out]; exact h0), HE.out]
    have h0' : ¬ ((E : Int) = 0) := by omega
    have C1 : Hid (Calls Tryz.prog 26 #[.agg (fing f)] W0 fun e w' => e = .returned (.tuple #[.string ⟨#[]⟩, .int .i64 (E : Int)]) ∧ Below W0.heap.size W0 w') := by
      have := C0.out
      unfold sayV at this
      rw [if_neg (by rw [← HE.out]; exact h0), ← HE.out] at this
      exact this
    have hbu := run_build0
    go_enter Tryz.func17, Tryz.ntmps17
    go_wp2_with fail
    show Calls _ _ _ ((w.alloc (.cells (fing f) 44)).alloc (.cells none25 30)) _
    rw [HW0.out]
    refine Calls.mono C1.out ?_
    rintro e W1 ⟨rfl, b1⟩
    have hc : Cst f w W1 := HF0.out.below b1
    have st : (storeR 30 (.pointer (some ⟨w.heap.size + 1, 0, none⟩)) (.agg none25)).run Tryz.prog W1 = .ok () (W1.setRow (w.heap.size + 1) none25) := run_storeR25 W1 (w.heap.size + 1) z20 z20 ⟨#[]⟩ ⟨#[]⟩ hc.row rfl rfl
    have HR : Hid ((W1.setRow (w.heap.size + 1) none25).heap[w.heap.size + 1]? = some (.cells none25 30 (0, 0))) := setRow_heap _ _ _ _ _ _ hc.row
    have HB : Hid (Below w.heap.size w (W1.setRow (w.heap.size + 1) none25)) := below_setRow hc.fs.st.bel (by omega) _
    clear C0 C1 ld hc b1
    go_wp2_with fail
    rw [hv.out]
    exact bodyPost_ret (results_cell2 rfl _ _ (w.heap.size + 1) z20 ⟨#[]⟩ rfl rfl HR.out) rfl ⟨rfl, HB.out⟩
end Go.Proofs.YteajpimonenopaaGreatDoor
