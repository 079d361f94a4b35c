/- ParseBase and Parse of a text that a label has. -/
import Derived.Test.YtffghlbgbfhfdaaGreatDoorRdM
namespace Go.Proofs.YtffghlbgbfhfdaaGreatDoor
open Go.RowKit
def z20 : List Nat := List.replicate 20 0
def none25 : Array Value := lab z20 ⟨#[]⟩
set_option maxRecDepth 100000 in
theorem zero25 (w : World) : Sem.run Tryz.prog (zeroValue 51) w = .ok (.agg none25) w := by kernel_rfl
set_option maxRecDepth 100000 in
theorem lab_one (h : List Nat) (s : ByteArray) : (lab h s).all (·.oneCell') = true := by
  simp [lab, bs, Value.oneCell']
set_option maxRecDepth 100000 in
theorem to25s (p v : Value) : Instr.storeAt 51 p v = storeR 51 p v := rfl
set_option maxRecDepth 100000 in
theorem run_storeR25 (w : World) (g : Nat) (h k : List Nat) (s t : ByteArray) (hg : w.heap[g]? = some (.cells (lab h s) 51 (0, 0))) (h1 : h.length = 20) (h2 : k.length = 20) : (storeR 51 (.pointer (some ⟨g, 0, none⟩)) (.agg (lab k t))).run Tryz.prog w = .ok () (w.setRow g (lab k t)) := by
  unfold storeR
  simp only [Instr.storeAt, Instr.sureAddr, Sem.run_bind, Sem.run_pure, Result.andThen_ok, run_storeVar_row w g 51 51 (lab h s) (lab k t) hg (by rw [size25, lab_size k t h2]) (by rw [lab_size k t h2, lab_size h s h1]) (lab_one _ _)]
set_option maxRecDepth 100000 in
theorem results_cell3 {fn : Func} {p u v : Tmp} (h : fn.results = #[.cell p 51, .tmp u, .tmp v]) (tmps : Array Value) (w : World) (g : Nat) (k : List Nat) (t : ByteArray) (hk : k.length = 20)
    (hp : tmps.getD p undef = .pointer (some ⟨g, 0, none⟩)) (hg : w.heap[g]? = some (.cells (lab k t) 51 (0, 0))) :
    (results fn tmps).run Tryz.prog w = .ok (.tuple #[.agg (lab k t), tmps.getD u undef, tmps.getD v undef]) w := by
  have hp' : tmps[p]?.getD undef = .pointer (some ⟨g, 0, none⟩) := by simpa using hp
  simp [results, h, hp', asAddr, run_loadVar_row w g 51 51 (lab k t) (0, 0) _ hg under25 rfl (by rw [size25, lab_size k t hk])]
set_option maxRecDepth 100000 in
theorem run_load23 (w : World) (g : Nat) (h : List Nat) (hg : w.heap[g]? = some (.cells (bs h) 5 (0, 0))) (hl : h.length = 20) : (loadR 49 (.pointer (some ⟨g, 0, none⟩))).run Tryz.prog w = .ok (.agg (bs h)) w :=
  run_loadAt_mid w g 0 49 (h.map fun (b : Nat) => Value.int .u8 (b : Int)) _ (fun j v hv => by
    have hj : j < h.length := by have := (List.getElem?_eq_some_iff.1 hv).1; simpa using this
    rw [Nat.zero_add, cell_of_row w _ _ _ _ _ hg, bs_get _ _ hj]
    simp [hj] at hv
    rw [← hv]
    simp [List.getD, hj]) Tryz.underlying49 rfl (by rw [size23, List.length_map, hl])
set_option maxRecDepth 100000 in
theorem run_arrayAt (w : World) (g : Nat) : (Instr.arrayAt 49 (.slice (some ⟨g, 0, none⟩) 20 20)).run Tryz.prog w = .ok (.pointer (some ⟨g, 0, none⟩)) w := by
  simp [Instr.arrayAt, Sem.run_bind, run_underlying Tryz.underlying49]
set_option maxRecDepth 100000 in
theorem built20 (a0 a1 a2 a3 a4 a5 a6 a7 a8 a9 a10 a11 a12 a13 a14 a15 a16 a17 a18 a19 : Nat) (s : ByteArray) : Tryz.prog.built 51 [(0, .agg (bs [a0, a1, a2, a3, a4, a5, a6, a7, a8, a9, a10, a11, a12, a13, a14, a15, a16, a17, a18, a19])), (1, .string s)] = some (lab [a0, a1, a2, a3, a4, a5, a6, a7, a8, a9, a10, a11, a12, a13, a14, a15, a16, a17, a18, a19] s) := by kernel_rfl
set_option maxRecDepth 100000 in
theorem built_lab (h : List Nat) (hl : h.length = 20) (s : ByteArray) : Tryz.prog.built 51 [(0, .agg (bs h)), (1, .string s)] = some (lab h s) := by
  match h, hl with
  | [a0, a1, a2, a3, a4, a5, a6, a7, a8, a9, a10, a11, a12, a13, a14, a15, a16, a17, a18, a19], _ => exact built20 a0 a1 a2 a3 a4 a5 a6 a7 a8 a9 a10 a11 a12 a13 a14 a15 a16 a17 a18 a19 s
/-- A label put together, kept shut. -/
def buildR (ps : Array (Nat × Value)) : Sem Value := Instr.build 51 ps
set_option maxRecDepth 100000 in
theorem toBuild (ps : Array (Nat × Value)) : Instr.build 51 ps = buildR ps := rfl
set_option maxRecDepth 100000 in
theorem run_buildR (w : World) (h : List Nat) (hl : h.length = 20) (s : ByteArray) : (buildR #[(0, .agg (bs h)), (1, .string s)]).run Tryz.prog w = .ok (.agg (lab h s)) w := run_build w 51 _ _ (built_lab h hl s)
set_option maxRecDepth 100000 in
theorem run_buildX (w : World) (s : ByteArray) : (buildR #[(1, .string s)]).run Tryz.prog w = .ok (.agg (lab z20 s)) w := run_build w 51 _ _ (by kernel_rfl)
attribute [local go_sem] zero25
attribute [local go_sem ↓] to25s to25l to23l toBuild
set_option maxRecDepth 100000 in
set_option maxHeartbeats 3200000 in
theorem pb_ok (s nm : ByteArray) (h : List Nat) (hb : Byt h) (hl : h.length = 20) (hsz : s.size = 33 + nm.size) (hns : nm.size ≤ 211) (hd : s.extract 0 32 = str (b32L h)) (hdash : byt s 32 = 45) (hn : s.extract 33 s.size = nm) (hok : okN nm = 0) (w : World) (ht : Tx w) :
    Calls Tryz.prog 64 #[.string s] w fun e w' => e = .returned (.tuple #[.agg (lab h nm), .int .i64 0, .int .i64 0]) ∧ Below w.heap.size w w' := by
  obtain ⟨hun, hby, hs32⟩ := un_text h hb hl
  have bel0 : Below w.heap.size w (w.alloc (.cells none25 51)) := (Below.refl _ w).alloc (Nat.le_refl _) _
  have CU := un_any (str (b32L h)) (by omega) (w.alloc (.cells none25 51)) (ht.below bel0 ht.sz)
  have h1 : ¬ (244 : Int) < (s.size : Int) := by omega
  have h2 : ¬ (s.size : Int) ≤ 32 := by omega
  have hmin : min (s.size : Int) 32 = 32 := by omega
  have h32 : (32 : Int) ≤ (s.size : Int) := by omega
  have h33 : (33 : Int) ≤ (s.size : Int) := by omega
  have hix : ∀ W : World, (Instr.index 9 (.string s) (.int .i64 32)).run Tryz.prog W = .ok (.int .u8 45) W := fun W => by
    have := idx9 W s 32 (by omega)
    rw [hdash] at this
    exact this
  have CC : Hid (∀ W, Calls Tryz.prog 34 #[.string nm] W fun e w' => e = .returned (.tuple #[.int .i64 0, .int .i64 (((checkN nm).2 : Nat) : Int)]) ∧ Below W.heap.size W w') := fun W => by
    have := check_any nm W
    unfold ans at this
    rw [show (checkN nm).1 = 0 from hok] at this
    exact this
  have HU : Hid (Calls Tryz.prog 81 #[.string (str (b32L h))] (w.alloc (.cells none25 51)) (UnPost (str (b32L h)) (w.alloc (.cells none25 51)))) := CU
  clear CU hsz hok hdash hns
  go_enter Tryz.func64, Tryz.ntmps64
  go_wp2_with fail
  refine HU.out.mono ?_
  rintro e W1 ⟨b1, v, rfl, hif⟩
  rw [hun, if_pos rfl, hs32, hby] at hif
  rw [hun]
  obtain ⟨g, rfl, hg, hrow⟩ := hif
  have z0 : (w.alloc (.cells none25 51)).heap.size = w.heap.size + 1 := by simp
  rw [z0] at hg
  have r1 : W1.heap[w.heap.size]? = some (.cells none25 51 (0, 0)) := (b1.block _ (by rw [z0]; omega)).trans (heap_alloc_new _ _)
  have R1 : Hid (W1.heap[w.heap.size]? = some (.cells none25 51 (0, 0))) := r1
  have G1 : Hid (W1.heap[g]? = some (.cells (bs h) 5 (0, 0))) := hrow
  have bel1 : Below w.heap.size w W1 := bel0.trans (b1.mono (by rw [z0]; omega))
  have zb := b1.size
  rw [z0] at zb
  have hg1 : g < W1.heap.size := (Array.getElem?_eq_some_iff.1 hrow).1
  clear hrow r1 b1
  go_wp2_with fail
  refine (CC.out _).mono ?_
  rintro e W2 ⟨rfl, b2⟩
  have R2 : W2.heap[w.heap.size]? = some (.cells none25 51 (0, 0)) := (b2.block _ (by omega)).trans R1.out
  have G2 : W2.heap[g]? = some (.cells (bs h) 5 (0, 0)) := (b2.block _ hg1).trans G1.out
  have bel2 : Below w.heap.size w W2 := bel1.trans (b2.mono (by omega))
  have ld := run_load23 W2 g h G2 hl
  have har := fun W => run_arrayAt W g
  have hbu := fun W => run_buildR W h hl nm
  have st := run_storeR25 W2 w.heap.size z20 h ⟨#[]⟩ nm R2 rfl hl
  have hres : Hid ((W2.setRow w.heap.size (lab h nm)).heap[w.heap.size]? = some (.cells (lab h nm) 51 (0, 0))) := setRow_heap _ _ _ _ _ _ R2
  have bel3 : Below w.heap.size w (W2.setRow w.heap.size (lab h nm)) := below_setRow bel2 (Nat.le_refl _) _
  clear R2 G2
  go_wp2_with fail
  exact bodyPost_ret (results_cell3 rfl _ _ w.heap.size h nm hl rfl hres.out) rfl ⟨rfl, bel3⟩
set_option maxRecDepth 100000 in
theorem byt_app (a b : ByteArray) (i : Nat) (h : i < a.size) : byt (a ++ b) i = byt a i := by
  have h1 : i < (a ++ b).size := by rw [ByteArray.size_append]; omega
  rw [← byt_at (a ++ b) i h1, ← byt_at a i h]
  congr 1
  show ((a ++ b).data[i]'h1) = a.data[i]'h
  simp only [ByteArray.data_append]
  exact Array.getElem_append_left h
set_option maxRecDepth 100000 in
set_option maxHeartbeats 3200000 in
theorem parse_ok (s nm : ByteArray) (h : List Nat) (hb : Byt h) (hl : h.length = 20) (hsz : s.size = 33 + nm.size) (hns : nm.size ≤ 211) (hd : s.extract 0 32 = str (b32L h)) (hdash : byt s 32 = 45) (hn : s.extract 33 s.size = nm) (hok : okN nm = 0) (w : World) (ht : Tx w) :
    Calls Tryz.prog 49 #[.string (store ++ s)] w fun e w' => e = .returned (.tuple #[.agg (lab h nm), .int .i64 0, .int .i64 0]) ∧ Below w.heap.size w w' := by
  obtain ⟨T, hT⟩ : ∃ T, T = store ++ s := ⟨_, rfl⟩
  have hTs : T.size = 13 + s.size := by rw [hT, ByteArray.size_append]; rfl
  have hTn : T.extract 13 T.size = s := by rw [hT]; exact ext_right store s 13 rfl
  have hTb : Hid (∀ k, k < 13 → byt T k = byt store k) := fun k hk => by rw [hT]; exact byt_app store s k hk
  rw [← hT]
  have bel0 : Below w.heap.size w (w.alloc (.cells none25 51)) := (Below.refl _ w).alloc (Nat.le_refl _) _
  have CP : Hid (∀ W, Tx W → Calls Tryz.prog 64 #[.string s] W fun e w' => e = .returned (.tuple #[.agg (lab h nm), .int .i64 0, .int .i64 0]) ∧ Below W.heap.size W w') := fun W hW => pb_ok s nm h hb hl hsz hns hd hdash hn hok W hW
  have h1 : ¬ (257 : Int) < (T.size : Int) := by omega
  have h13 : (13 : Int) ≤ (T.size : Int) := by omega
  have hT13 : 13 < T.size := by omega
  have HT : Hid (Tx w) := ht
  have HB0 : Hid (Below w.heap.size w (w.alloc (.cells none25 51))) := bel0
  clear hT hTs hsz hns hd hdash hn hok ht bel0
  go_enter Tryz.func49, Tryz.ntmps49
  go_wp2_with fail
  obtain ⟨W0, hW0⟩ : ∃ W, W = w.alloc (.cells none25 51) := ⟨_, rfl⟩
  change Code.wp _ _ _ _ (w.alloc (.cells none25 51))
  rw [← hW0]
  have r0 : Hid (W0.heap[w.heap.size]? = some (.cells none25 51 (0, 0))) := by rw [hW0]; exact heap_alloc_new _ _
  have b0 : Below w.heap.size w W0 := by rw [hW0]; exact HB0.out
  clear hW0 HB0
  go_loopw [13] (fun i wr => ∃ k : Nat, i = .int .i64 (k : Int) ∧ k ≤ 13 ∧ Hid (wr.heap[w.heap.size]? = some (.cells none25 51 (0, 0))) ∧ Below w.heap.size w wr) (fun i _ => 13 - (intOf i).toNat)
  case atStart => exact ⟨0, rfl, by omega, r0, b0⟩
  case round =>
    clear r0 b0
    obtain ⟨k, rfl, hk, r0, bel⟩ := hrel
    by_cases hlt : k < 13
    · have hk0 : (0 : Int) ≤ (k : Int) := by omega
      have hk1 : (k : Int) < 13 := by omega
      have hk2 : ¬ ((k : Int) = (T.size : Int)) := by omega
      obtain ⟨c, hc⟩ : ∃ c, c = byt store k := ⟨_, rfl⟩
      have i1 : ∀ W : World, (Instr.index 9 (.string T) (.int .i64 (k : Int))).run Tryz.prog W = .ok (.int .u8 (c : Int)) W := fun W => by
        rw [hc, ← hTb.out k hlt]; exact idx9 W T k (by omega)
      have i2 : ∀ W : World, (Instr.index 9 (.string ⟨#[47, 103, 114, 97, 102, 116, 47, 115, 116, 111, 114, 101, 47]⟩) (.int .i64 (k : Int))).run Tryz.prog W = .ok (.int .u8 (c : Int)) W := fun W => by
        rw [hc]; exact idx9 W store k hlt
      clear hc
      go_wp2_with fail
      go_quiet (fail)
      go_wp2
      go_roundw
      case rel => exact ⟨k + 1, by go_num, by omega, r0, Below.drewN' bel _⟩
      case measure => simp [intOf]; omega
    · have hk1 : ¬ ((k : Int) < 13) := by omega
      have hke : k = 13 := by omega
      subst hke
      go_wp2_with fail
      refine (CP.out _ (HT.out.below bel HT.out.sz)).mono ?_
      rintro e W1 ⟨rfl, b1⟩
      have hG : w.heap.size < wr.heap.size := (Array.getElem?_eq_some_iff.1 r0.out).1
      have r1 : W1.heap[w.heap.size]? = some (.cells none25 51 (0, 0)) := (b1.block _ hG).trans r0.out
      have z1 : w.heap.size < W1.heap.size := (Array.getElem?_eq_some_iff.1 r1).1
      have bel1 : Below w.heap.size w W1 := bel.trans (b1.mono bel.size)
      have s1 : (storeR 51 (.pointer (some ⟨W1.heap.size, 0, none⟩)) (.agg (lab h nm))).run Tryz.prog (W1.alloc (.cells #[.int .u8 0, .int .u8 0, .int .u8 0, .int .u8 0, .int .u8 0, .int .u8 0, .int .u8 0, .int .u8 0, .int .u8 0, .int .u8 0, .int .u8 0, .int .u8 0, .int .u8 0, .int .u8 0, .int .u8 0, .int .u8 0, .int .u8 0, .int .u8 0, .int .u8 0, .int .u8 0, .string ⟨#[]⟩] 51)) = .ok () ((W1.alloc (.cells none25 51)).setRow W1.heap.size (lab h nm)) := run_storeR25 (W1.alloc (.cells none25 51)) W1.heap.size z20 h ⟨#[]⟩ nm (heap_alloc_new _ _) rfl hl
      obtain ⟨W2, hW2⟩ : ∃ W, W = (W1.alloc (.cells none25 51)).setRow W1.heap.size (lab h nm) := ⟨_, rfl⟩
      have rn : W2.heap[W1.heap.size]? = some (.cells (lab h nm) 51 (0, 0)) := by rw [hW2]; exact setRow_heap _ _ _ _ _ _ (heap_alloc_new _ _)
      have r2 : W2.heap[w.heap.size]? = some (.cells none25 51 (0, 0)) := by rw [hW2]; exact (setRow_other _ _ _ _ (by omega)).trans ((heap_alloc_old _ _ (h := z1)).trans r1)
      have bel2 : Below w.heap.size w W2 := by rw [hW2]; exact below_setRow (bel1.alloc (by omega) _) (by omega) _
      rw [← hW2] at s1
      have l2 := run_loadR25 W2 W1.heap.size h nm rn hl
      have s2 := run_storeR25 W2 w.heap.size z20 h ⟨#[]⟩ nm r2 rfl hl
      have hres : Hid ((W2.setRow w.heap.size (lab h nm)).heap[w.heap.size]? = some (.cells (lab h nm) 51 (0, 0))) := setRow_heap _ _ _ _ _ _ r2
      have bel3 : Below w.heap.size w (W2.setRow w.heap.size (lab h nm)) := below_setRow bel2 (Nat.le_refl _) _
      clear hW2 rn r2 r1 b1
      go_wp2_with fail
      exact bodyPost_ret (results_cell3 rfl _ _ w.heap.size h nm hl rfl hres.out) rfl ⟨rfl, bel3⟩
end Go.Proofs.YtffghlbgbfhfdaaGreatDoor
