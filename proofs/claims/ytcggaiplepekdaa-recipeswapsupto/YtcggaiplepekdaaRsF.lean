/- changesOf. -/
import Derived.Test.YtcggaiplepekdaaRsE
import Derived.Test.YtcggaiplepekdaaRsC
namespace Go.Proofs.Ytcggaiplepekdaa
open Go.RowKit
def zH : Array Value := #[.slice none 0 0, .int .i64 0]
theorem sizeH : (Try.prog.info? 55).map (·.size) = some 2 := by kernel_rfl
theorem sizeC : (Try.prog.info? 64).map (·.size) = some 2 := by kernel_rfl
def ldH (p : Value) : Sem Value := Instr.loadAt 55 p
theorem toLdH (p : Value) : Instr.loadAt 55 p = ldH p := rfl
def stH (p v : Value) : Sem Unit := Instr.storeAt 55 p v
theorem toStH (p v : Value) : Instr.storeAt 55 p v = stH p v := rfl
def stC (p v : Value) : Sem Unit := Instr.storeAt 64 p v
theorem toStC (p v : Value) : Instr.storeAt 64 p v = stC p v := rfl
def ldC (p : Value) : Sem Value := Instr.loadAt 64 p
theorem toLdC (p : Value) : Instr.loadAt 64 p = ldC p := rfl
def bdC (ps : Array (Nat × Value)) : Sem Value := Instr.build 64 ps
theorem toBdC (ps : Array (Nat × Value)) : Instr.build 64 ps = bdC ps := rfl
theorem bd_C (w : World) (a b : S) : (bdC #[(0, .string a), (1, .string b)]).run Try.prog w = .ok (.agg #[.string a, .string b]) w := run_build w 64 _ _ (by kernel_rfl)
theorem bd_C0 (w : World) : (bdC #[]).run Try.prog w = .ok (.agg #[.string ⟨#[]⟩, .string ⟨#[]⟩]) w := run_build w 64 _ _ (by kernel_rfl)
theorem ld_H (w : World) (g : Nat) (c : Array Value) (hc : c.size = 2) (h : w.heap[g]? = some (.cells c 55 (0, 0))) : (ldH (.pointer (some ⟨g, 0, none⟩))).run Try.prog w = .ok (.agg c) w := by
  have h2 := World.rangeAt_of_block h 0 2
  rw [show c.extract 0 (0 + 2) = c by rw [← hc, Nat.zero_add]; simp] at h2
  have := run_loadAt_mid (P := Try.prog) w g 0 55 c.toList _ h2 Try.underlying55 rfl (by rw [sizeH]; simp [hc])
  simpa [ldH] using this
theorem st_H (w : World) (g : Nat) (C D : Array Value) (hC : C.size = 2) (hD : D.size = 2) (h1 : D.all (·.oneCell') = true) (hg : w.heap[g]? = some (.cells C 55 (0, 0))) : (stH (.pointer (some ⟨g, 0, none⟩)) (.agg D)).run Try.prog w = .ok () (w.setRow g D) := by
  unfold stH
  simp only [Instr.storeAt, Instr.sureAddr, Sem.run_bind, Sem.run_pure, Result.andThen_ok, run_storeVar_row w g 55 55 C D hg (by rw [sizeH, hD]) (by rw [hD, hC]) h1]
theorem ld_C (w : World) (g o : Nat) (x : Pai) (h : w.rangeAt g o (eR x).toList) : (ldC (.pointer (some ⟨g, o, none⟩))).run Try.prog w = .ok (.agg (eR x)) w := by
  have := run_loadAt_mid (P := Try.prog) w g o 64 (eR x).toList _ h Try.underlying64 rfl (by rw [sizeC]; rfl)
  exact this
theorem st_C (w : World) (g o : Nat) (x : Pai) (ht : w.there g o 2) : (stC (.pointer (some ⟨g, o, none⟩)) (.agg #[.string x.1, .string x.2])).run Try.prog w = .ok () ((w.setCell ⟨g, o, none⟩ (.string x.1)).setCell ⟨g, o + 1, none⟩ (.string x.2)) := by
  have := run_storeAt_mid (P := Try.prog) w g o 64 #[.string x.1, .string x.2] ht (by rw [sizeC]; rfl) (by simp [Value.oneCell'])
  exact this
theorem results_H {fn : Func} {p : Tmp} (h : fn.results = #[.cell p 55]) (tmps : Array Value) (w : World) (g : Nat) (C : Array Value) (hC : C.size = 2)
    (hp : tmps.getD p undef = .pointer (some ⟨g, 0, none⟩)) (hg : w.heap[g]? = some (.cells C 55 (0, 0))) :
    (results fn tmps).run Try.prog w = .ok (.agg C) w := by
  have hp' : tmps[p]?.getD undef = .pointer (some ⟨g, 0, none⟩) := by simpa using hp
  simp [results, h, hp', asAddr, run_loadVar_row w g 55 55 C (0, 0) _ hg Try.underlying55 rfl (by rw [sizeH, hC])]
def ZP : Pai := (⟨#[]⟩, ⟨#[]⟩)
theorem infoC : (Try.prog.info? 64).map (fun i => (i.zero, i.size, i.bytes)) = some (some (.agg #[.string ⟨#[]⟩, .string ⟨#[]⟩]), 2, 32) := by kernel_rfl
theorem flat_repC (n : Nat) : flat ((List.replicate n ZP).map eR) = List.replicate (n * 2) (.string ⟨#[]⟩) := by
  induction n with
  | zero => rfl
  | succ n ih =>
    rw [List.replicate_succ, List.map_cons, Nat.succ_mul]
    show (eR ZP).toList ++ flat ((List.replicate n ZP).map eR) = _
    rw [ih]
    show [Value.string ⟨#[]⟩, Value.string ⟨#[]⟩] ++ _ = _
    rw [show n * 2 + 2 = n * 2 + 1 + 1 from rfl, List.replicate_succ, List.replicate_succ]
    rfl
theorem run_mkC (w : World) (n : Nat) (hn : n ≤ 10000000) : ∃ w', (Instr.makeSlice 53 (.int .i64 (n : Int)) (.int .i64 (n : Int))).run Try.prog w = .ok (.slice (some ⟨w.heap.size, 0, none⟩) n n) w' ∧ Ol w.heap.size 64 2 w' (.slice (some ⟨w.heap.size, 0, none⟩) n n) ((List.replicate n ZP).map eR) ∧ Below w.heap.size w w' := by
  obtain ⟨i0, hi0, hz0, hz1, hz2⟩ := info_parts infoC
  obtain ⟨w', h1, h2, h3⟩ := run_make_full (P := Try.prog) w w.heap.size 53 64 i0 _ 2 Try.underlying53 hi0 hz0 hz1 .i64 .i64 n (by rw [hz2]; omega) (by unfold maxLen; omega) (Nat.le_refl _)
  have e : (madeCells (Value.cells (.agg #[.string ⟨#[]⟩, .string ⟨#[]⟩])) (n * 2)).toList = List.replicate (n * 2) (.string ⟨#[]⟩) := by
    apply List.ext_getElem?
    intro j
    simp only [madeCells, List.getElem?_replicate]
    by_cases q : j < n * 2
    · have hm : j % 2 = 0 ∨ j % 2 = 1 := by omega
      rcases hm with z | z <;> simp [q, Value.cells, z]
    · simp [q]
  refine ⟨w', h1, ⟨?_, rs_e _⟩, ⟨h3.os, h3.tape, h3.output, h3.size, fun j hj => h3.block j hj (fun q => by cases q)⟩⟩
  rw [flat_repC, List.length_map, List.length_replicate, ← e]
  exact h2
/-- The changes in the making. -/
structure Ci (W : World) (C : List Pai) (n g cb i : Nat) (least : Nat) (wr : World) : Prop where
  bel : Below W.heap.size W wr
  ans : wr.heap[W.heap.size]? = some (.cells zH 55 (0, 0))
  own : Ol (W.heap.size + 1) 64 2 wr (.slice (some ⟨g, 0, none⟩) n n) ((C.take i ++ List.replicate (n - i) ZP).map eR)
  box : wr.heap[cb]? = some (.cells #[.slice (some ⟨g, 0, none⟩) n n, .int .i64 (least : Int)] 55 (0, 0))
  hcb : W.heap.size < cb
theorem Ci.below {W : World} {C : List Pai} {n g cb i least : Nat} {wr w' : World} (h : Ci W C n g cb i least wr) (hb : Below wr.heap.size wr w') : Ci W C n g cb i least w' :=
  ⟨h.bel.trans (hb.mono h.bel.size), (hb.block _ (Array.getElem?_eq_some_iff.1 h.ans).1).trans h.ans, h.own.below hb, (hb.block _ (Array.getElem?_eq_some_iff.1 h.box).1).trans h.box, h.hcb⟩
theorem Ci.put {W : World} {C : List Pai} {n g cb i least : Nat} {wr : World} (h : Ci W C n g cb i least wr) (hn : C.length = n) {x : Pai} (hx : C[i]? = some x) :
    wr.there g (i * 2) 2 ∧ Ci W C n g cb (i + 1) least ((wr.setCell ⟨g, i * 2, none⟩ (.string x.1)).setCell ⟨g, i * 2 + 1, none⟩ (.string x.2)) := by
  have hi := (List.getElem?_eq_some_iff.1 hx).1
  have hl : (C.take i ++ List.replicate (n - i) ZP)[i]? = some ZP := by
    rw [List.getElem?_append_right (by simp; omega)]
    simp [List.getElem?_replicate, show min i C.length = i by omega]
    omega
  have hl2 : ((C.take i ++ List.replicate (n - i) ZP).map eR)[i]? = some (eR ZP) := by rw [List.getElem?_map, hl]; rfl
  have gt := h.own.tag (g := g) rfl
  have t1 : wr.cell? ⟨g, i * 2 + 0, none⟩ = some (.string ⟨#[]⟩) := h.own.cel i 0 _ _ hl2 rfl
  have t2 : wr.cell? ⟨g, i * 2 + 1, none⟩ = some (.string ⟨#[]⟩) := h.own.cel i 1 _ _ hl2 rfl
  refine ⟨fun j hj => ⟨?_, h.own.fro _⟩, ?_⟩
  · have : j = 0 ∨ j = 1 := by omega
    rcases this with rfl | rfl
    · rw [t1]; rfl
    · rw [t2]; rfl
  · have o1 := h.own.setc i 0 _ (.string x.1) hl2 (by omega) rfl
    have hl3 : (((C.take i ++ List.replicate (n - i) ZP).map eR).set i ((eR ZP).setIfInBounds 0 (.string x.1)))[i]? = some ((eR ZP).setIfInBounds 0 (.string x.1)) := by
      rw [List.getElem?_set_self (by simp; omega)]
    have o2 := o1.setc i 1 _ (.string x.2) hl3 (by omega) rfl
    obtain ⟨_, _, cur, hc⟩ := gt
    have ne1 : W.heap.size ≠ g := (tag_ne hc h.ans (by decide)).symm
    have ne2 : cb ≠ g := (tag_ne hc h.box (by decide)).symm
    refine ⟨(h.bel.setCell (p := ⟨g, i * 2, none⟩) (by show W.heap.size ≤ g; omega) _).setCell (p := ⟨g, i * 2 + 1, none⟩) (by show W.heap.size ≤ g; omega) _, ?_, ?_, ?_, h.hcb⟩
    · rw [heap_setCell_other _ _ _ _ (by exact ne1), heap_setCell_other _ _ _ _ (by exact ne1)]; exact h.ans
    · have e : ((((C.take i ++ List.replicate (n - i) ZP).map eR).set i ((eR ZP).setIfInBounds 0 (.string x.1))).set i (((eR ZP).setIfInBounds 0 (.string x.1)).setIfInBounds 1 (.string x.2))) = (C.take (i + 1) ++ List.replicate (n - (i + 1)) ZP).map eR := by
        rw [List.set_set]
        show ((C.take i ++ List.replicate (n - i) ZP).map eR).set i (eR x) = _
        rw [← List.map_set, List.set_append_right _ _ (by simp; omega), List.take_add_one, hx]
        have e1 : i - (C.take i).length = 0 := by simp; omega
        rw [e1, show n - i = (n - (i + 1)) + 1 by omega, List.replicate_succ]
        simp
      rw [e] at o2
      exact o2
    · rw [heap_setCell_other _ _ _ _ (by exact ne2), heap_setCell_other _ _ _ _ (by exact ne2)]; exact h.box
theorem Ci.low {W : World} {C : List Pai} {n g cb i least : Nat} {wr : World} (h : Ci W C n g cb i least wr) (m : Nat) : wr.frozen? ⟨cb, 1, none⟩ = false ∧ Ci W C n g cb i m (wr.setCell ⟨cb, 1, none⟩ (.int .i64 (m : Int))) := by
  obtain ⟨_, _, cur, hc⟩ := h.own.tag (g := g) rfl
  have ne2 : g ≠ cb := tag_ne hc h.box (by decide)
  refine ⟨frozen_of_row _ _ _ _ _ h.box, h.bel.setCell (p := ⟨cb, 1, none⟩) (by have := h.hcb; show W.heap.size ≤ cb; omega) _, ?_, ?_, ?_, h.hcb⟩
  · rw [heap_setCell_other _ _ _ _ (by have := h.hcb; show W.heap.size ≠ cb; omega)]; exact h.ans
  · exact h.own.keep fun b hb => heap_setCell_other _ _ _ _ (by
      show b ≠ cb
      have : b = g := by simp [Value.ownBlock] at hb; exact hb.symm
      rw [this]; exact ne2)
  · exact heap_setCell_same _ _ _ _ _ _ h.box
/-- What changesOf leaves. -/
def ChP (W : World) (fr to : List S) (e : Ending) (w' : World) : Prop := ∃ (oa : Option Addr) (cap least : Nat) (C : List Pai), e = .returned (.agg #[.slice oa C.length cap, .int .i64 (least : Int)]) ∧ C.Perm (fr.zip to) ∧ Sd C ∧ Ls w' (.slice oa C.length cap) 2 (C.map eR) ∧ (∀ x ∈ C, least ≤ x.1.size) ∧ least ≤ 2000000 ∧ Below W.heap.size W w'
section
attribute [local go_sem ↓] toLdH toStH toStC toBdC
set_option maxRecDepth 100000 in
set_option maxHeartbeats 3200000 in
theorem changes_any (W : World) (fv tv : Value) (fr to : List S) (hf : Ls W fv 1 (fr.map sR)) (ht : Ls W tv 1 (to.map sR)) (hn : fr.length = to.length) (hfz : ∀ x ∈ fr, x.size ≤ 2000000) (hnl : fr.length ≤ 10000000) : Calls Try.prog 22 #[fv, tv] W (ChP W fr to) := by
  obtain ⟨of, cf, rfl⟩ := hf.form
  obtain ⟨ot, ct, rfl⟩ := ht.form
  rw [List.length_map] at hf ht ⊢
  rw [List.length_map]
  obtain ⟨n, hn1⟩ : ∃ n, fr.length = n := ⟨_, rfl⟩
  rw [hn1] at hf
  rw [← hn, hn1] at ht
  rw [hn1, ← hn, hn1]
  obtain ⟨C, hC⟩ : ∃ C, fr.zip to = C := ⟨_, rfl⟩
  have hCl : C.length = n := by rw [← hC, List.length_zip]; omega
  have hCg : ∀ (j : Nat) x, C[j]? = some x → fr[j]? = some x.1 ∧ to[j]? = some x.2 := fun j x hx => by
    rw [← hC] at hx
    exact List.getElem?_zip_eq_some.1 hx
  have HF : Hid (∀ (j : Nat) x, C[j]? = some x → ∃ g o, of = some ⟨g, o, none⟩ ∧ ∀ w, Below W.heap.size W w → w.cell? ⟨g, o + j, none⟩ = some (.string x.1)) := fun j x hx => hf.txt (hCg j x hx).1
  have HT : Hid (∀ (j : Nat) x, C[j]? = some x → ∃ g o, ot = some ⟨g, o, none⟩ ∧ ∀ w, Below W.heap.size W w → w.cell? ⟨g, o + j, none⟩ = some (.string x.2)) := fun j x hx => ht.txt (hCg j x hx).2
  have HZ : Hid (∀ (j : Nat) x, C[j]? = some x → x.1.size ≤ 2000000) := fun j x hx => hfz _ (List.mem_of_getElem? (hCg j x hx).1)
  have HX : Hid (C.length = n ∧ n ≤ 10000000 ∧ fr.zip to = C) := ⟨hCl, by omega, hC⟩
  obtain ⟨A, hA⟩ : ∃ A, W.alloc (.cells zH 55) = A := ⟨_, rfl⟩
  have bA : Below W.heap.size W A := by rw [← hA]; exact (Below.refl _ W).alloc (Nat.le_refl _) _
  have rA : A.heap[W.heap.size]? = some (.cells zH 55 (0, 0)) := by rw [← hA]; exact heap_alloc_new _ _
  have zA : A.heap.size = W.heap.size + 1 := by rw [← hA]; simp
  obtain ⟨M, mr, mo, mb⟩ := run_mkC A n (by omega)
  rw [zA] at mr mo mb
  have rM : M.heap[W.heap.size]? = some (.cells zH 55 (0, 0)) := (mb.block _ (by omega)).trans rA
  have bM : Below W.heap.size W M := bA.trans (mb.mono (by omega))
  have zM : W.heap.size + 1 < M.heap.size := (mo.tag (g := W.heap.size + 1) rfl).2.1
  obtain ⟨X, hX⟩ : ∃ X, (M.alloc (.cells zH 55)).setRow M.heap.size #[.slice (some ⟨W.heap.size + 1, 0, none⟩) n n, .int .i64 0] = X := ⟨_, rfl⟩
  have sX := st_H (M.alloc (.cells zH 55)) M.heap.size zH #[.slice (some ⟨W.heap.size + 1, 0, none⟩) n n, .int .i64 0] rfl rfl (by simp [Value.oneCell']) (heap_alloc_new _ _)
  have rX : X.heap[M.heap.size]? = some (.cells #[.slice (some ⟨W.heap.size + 1, 0, none⟩) n n, .int .i64 0] 55 (0, 0)) := by rw [← hX]; exact setRow_heap _ _ _ _ _ _ (heap_alloc_new _ _)
  have bX : Below M.heap.size M X := by rw [← hX]; exact below_setRow ((Below.refl _ M).alloc (Nat.le_refl _) _) (Nat.le_refl _) _
  rw [hX] at sX
  have HI : Hid (Ci W C n (W.heap.size + 1) M.heap.size 0 0 X) := ⟨bM.trans (bX.mono bM.size), (bX.block _ (by omega)).trans rM, by
    have := mo.below bX
    simpa using this, rX, by omega⟩
  rw [← hA] at mr
  unfold zH at mr sX
  clear hf ht hn hfz hnl hn1 hC hCl hCg hA bA rA zA mo mb rM bM zM hX rX bX
  go_enter Try.func22, Try.ntmps22
  go_wp2_with fail
  clear mr sX
  obtain ⟨cb, hcb⟩ : ∃ cb, M.heap.size = cb := ⟨_, rfl⟩
  obtain ⟨g, hg⟩ : ∃ g, W.heap.size + 1 = g := ⟨_, rfl⟩
  rw [hcb, hg] at HI
  rw [hcb]
  clear hcb hg
  go_loopw [6, 13] (fun _ iv wr => ∃ (i : Nat), iv = .int .i64 (i : Int) ∧ Hid (∃ least : Nat, i ≤ n ∧ Ci W C n g cb i least wr ∧ (∀ x ∈ C.take i, least ≤ x.1.size) ∧ least ≤ 2000000)) (fun _ iv _ => n + 1 - (intOf iv).toNat)
  case atStart => exact ⟨0, rfl, 0, Nat.zero_le _, HI.out, fun x hx => Nat.zero_le _, Nat.zero_le _⟩
  case round =>
    obtain ⟨i, rfl, HJ⟩ := hrel
    by_cases hi : i < n
    · obtain ⟨least, ile, ci, hle, hlb⟩ := HJ.out
      obtain ⟨x, hx⟩ : ∃ x, C[i]? = some x := ⟨_, List.getElem?_eq_getElem (by have := HX.out.1; omega)⟩
      obtain ⟨gf, qf, rfl, hcf⟩ := HF.out i x hx
      obtain ⟨gt, qt, rfl, hct⟩ := HT.out i x hx
      have ciE := ci.below (below_drw wr)
      have kE : wr.drew.cell? ⟨cb, 0, none⟩ = some (.slice (some ⟨g, 0, none⟩) n n) := c1 ciE.box rfl
      have cE1 := hcf wr.drew ciE.bel
      have cE2 := hct wr.drew ciE.bel
      obtain ⟨th, ci2⟩ := ciE.put HX.out.1 hx
      have sC := st_C wr.drew g (i * 2) x th
      have bC := bd_C wr.drew x.1 x.2
      obtain ⟨Z, hZ⟩ : ∃ Z, (wr.drew.setCell ⟨g, i * 2, none⟩ (.string x.1)).setCell ⟨g, i * 2 + 1, none⟩ (.string x.2) = Z := ⟨_, rfl⟩
      rw [hZ] at sC ci2
      have HZx : Hid (x.1.size ≤ 2000000 ∧ C[i]? = some x ∧ i < n) := ⟨HZ.out i x hx, hx, hi⟩
      have HCI : Hid (∀ k, Ci W C n g cb (i + 1) least (Z.drewN k)) := fun k => ci2.below ⟨rfl, rfl, rfl, Nat.le_refl _, fun _ _ => rfl⟩
      have cZ1 : ∀ k, (Z.drewN k).cell? ⟨gf, qf + i, none⟩ = some (.string x.1) := fun k => hcf _ (HCI.out k).bel
      have cZ2 : ∀ k, (Z.drewN k).cell? ⟨cb, 1, none⟩ = some (.int .i64 (least : Int)) := fun k => c1 (HCI.out k).box rfl
      have HLE : Hid ((∀ y ∈ C.take i, least ≤ y.1.size) ∧ least ≤ 2000000) := ⟨hle, hlb⟩
      have HTK : Hid (C.take (i + 1) = C.take i ++ [x]) := by show _ = _; rw [List.take_add_one, hx]; rfl
      have hi0 : (0 : Int) ≤ (i : Int) := by omega
      have hi1 : (i : Int) < (n : Int) := by omega
      have w1' : IntKind.i64.wrap ((i : Int) + 1) = (i : Int) + 1 := by rw [IntKind.wrap_i64]; have := HX.out.2.1; omega
      obtain ⟨x1, x2⟩ := x
      have HLO : Hid (∀ k, (Z.drewN k).frozen? ⟨cb, 1, none⟩ = false ∧ Ci W C n g cb (i + 1) x1.size ((Z.drewN k).setCell ⟨cb, 1, none⟩ (.int .i64 (x1.size : Int)))) := fun k => (HCI.out k).low x1.size
      clear hi ile ci hle hlb hx hcf hct ciE th ci2 hZ
      go_wp2_with fail
      go_region
      go_wp2_with fail
      by_cases hz : i = 0
      · have hd : ((i : Int) == 0) = true := beq_iff_eq.2 (by omega)
        have HI0 : Hid (i = 0) := hz
        clear hz
        go_quiet (fail)
        obtain ⟨fz, ci3⟩ := HLO.out nq
        have HC3 : Hid (Ci W C n g cb (i + 1) x1.size ((Z.drewN nq).setCell ⟨cb, 1, none⟩ (.int .i64 (x1.size : Int)))) := ci3
        clear ci3
        go_wp2_with fail
        go_roundw
        case rel => exact ⟨i + 1, by go_num, x1.size, HZx.out.2.2, HC3.out, fun y hy => by
          rw [HTK.out, HI0.out] at hy
          simp at hy
          rw [hy]; exact Nat.le_refl _, HZx.out.1⟩
        case measure => have := HZx.out.2.2; simp [intOf]; omega
      · have hd : ((i : Int) == 0) = false := by rw [beq_eq_false_iff_ne]; omega
        clear hz
        by_cases hm : x1.size < least
        · have hm1 : decide ((x1.size : Int) < (least : Int)) = true := decide_eq_true (by omega)
          have HM : Hid (x1.size < least) := hm
          clear hm
          go_quiet (fail)
          obtain ⟨fz, ci3⟩ := HLO.out nq
          have HC3 : Hid (Ci W C n g cb (i + 1) x1.size ((Z.drewN nq).setCell ⟨cb, 1, none⟩ (.int .i64 (x1.size : Int)))) := ci3
          clear ci3
          go_wp2_with fail
          go_roundw
          case rel => exact ⟨i + 1, by go_num, x1.size, HZx.out.2.2, HC3.out, fun y hy => by
            rw [HTK.out] at hy
            rcases List.mem_append.1 hy with q | q
            · have := HLE.out.1 y q; have := HM.out; omega
            · simp at q; rw [q]; exact Nat.le_refl _, HZx.out.1⟩
          case measure => have := HZx.out.2.2; simp [intOf]; omega
        · have hm1 : decide ((x1.size : Int) < (least : Int)) = false := decide_eq_false (by omega)
          have HM : Hid (¬ x1.size < least) := hm
          clear hm
          go_quiet (fail)
          go_wp2_with fail
          go_roundw
          case rel => exact ⟨i + 1, by go_num, least, HZx.out.2.2, HCI.out _, fun y hy => by
            rw [HTK.out] at hy
            rcases List.mem_append.1 hy with q | q
            · exact HLE.out.1 y q
            · simp at q; rw [q]; have := HM.out; show least ≤ x1.size; omega, HLE.out.2⟩
          case measure => have := HZx.out.2.2; simp [intOf]; omega
    · obtain ⟨least, ile, ci, hle, hlb⟩ := HJ.out
      obtain rfl : i = n := by omega
      have hi1 : ¬ ((i : Int) < (i : Int)) := by omega
      have hCi := HX.out.1
      have own := ci.own
      rw [Nat.sub_self, List.replicate_zero, List.append_nil, List.take_of_length_le (by omega)] at own
      have HSo : Hid _ := sort_any C (by have := HX.out.2.1; omega) g _ wr (by rw [hCi]; exact own)
      rw [hCi] at HSo
      have kE : wr.cell? ⟨cb, 0, none⟩ = some (.slice (some ⟨g, 0, none⟩) i i) := c1 ci.box rfl
      rw [List.take_of_length_le (by omega)] at hle
      have HCI : Hid (Ci W C i g cb i least wr ∧ (∀ x ∈ C, least ≤ x.1.size) ∧ least ≤ 2000000) := ⟨ci, hle, hlb⟩
      clear hi ile ci hle hlb hCi own
      go_wp2_with fail
      refine Calls.mono HSo.out ?_
      rintro e w2 ⟨rfl, D, stp⟩
      have ci := HCI.out.1
      obtain ⟨_, hgz, cur, hc⟩ := ci.own.tag (g := g) rfl
      have r1 := stp.blk cb _ ci.box (tag_ne hc ci.box (by decide)).symm
      have r2 := stp.blk W.heap.size _ ci.ans (tag_ne hc ci.ans (by decide)).symm
      have l1 := ld_H w2 cb _ rfl r1
      have s1 := st_H w2 W.heap.size _ #[.slice (some ⟨g, 0, none⟩) i i, .int .i64 (least : Int)] rfl rfl (by simp [Value.oneCell']) r2
      obtain ⟨Z, hZ⟩ : ∃ Z, w2.setRow W.heap.size #[.slice (some ⟨g, 0, none⟩) i i, .int .i64 (least : Int)] = Z := ⟨_, rfl⟩
      have hD : D.length = i := by have := stp.perm.length_eq; have := HX.out.1; omega
      have b2 : Below W.heap.size W w2 := ci.bel.trans (stp.bel W.heap.size (by have := (ci.own.tag (g := g) rfl).1; omega) ci.bel.size)
      have HE : Hid (Z.heap[W.heap.size]? = some (.cells #[.slice (some ⟨g, 0, none⟩) i i, .int .i64 (least : Int)] 55 (0, 0)) ∧ Ls Z (.slice (some ⟨g, 0, none⟩) D.length D.length) 2 (D.map eR) ∧ Below W.heap.size W Z ∧ D.length = i ∧ D.Perm C ∧ Sd D) := by
        rw [← hZ]
        refine ⟨setRow_heap _ _ _ _ _ _ r2, ?_, below_setRow b2 (Nat.le_refl _) _, hD, stp.perm, stp.sd⟩
        obtain ⟨oa, cap, e1, e2, e3, e4, e5, e6⟩ := stp.ls
        refine ⟨oa, cap, e1, e2, e3, e4, e5, fun j c hcj => ?_⟩
        obtain ⟨g', o', q1, q2, q3⟩ := e6 j c hcj
        have : g' = g := by
          have := e1.symm
          rw [q1] at this
          injection this with q
          injection q with q
          injection q with q _
        subst this
        have hne : g' ≠ W.heap.size := tag_ne hc ci.ans (by decide)
        exact ⟨g', o', q1, by simpa [World.setRow] using q2, range_block q3 (setRow_other _ _ _ _ hne)⟩
      rw [hZ] at s1
      clear stp ci hc r1 r2 hD b2 hZ hgz
      go_wp2_with fail
      refine bodyPost_ret (results_H rfl _ _ W.heap.size _ rfl rfl HE.out.1) rfl ?_
      obtain ⟨-, e2, e3, e4, e5, e6⟩ := HE.out
      exact ⟨_, _, least, D, by rw [e4], by rw [HX.out.2.2]; exact e5, e6, e2, fun x hx => HCI.out.2.1 x (e5.mem_iff.1 hx), HCI.out.2.2, e3⟩
end
end Go.Proofs.Ytcggaiplepekdaa
