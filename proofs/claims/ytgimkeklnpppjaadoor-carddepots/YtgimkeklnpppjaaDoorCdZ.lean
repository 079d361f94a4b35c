/- The document's ReadSign. -/
import Derived.Test.YtgimkeklnpppjaaDoorCdY
namespace Go.Proofs.YtgimkeklnpppjaaDoor
open Go.RowKit Go.Shelf
theorem pre_ne (c : UInt8) : ∀ (l : List UInt8) (k : Nat), k < (pre c l).length → ∃ x, l[k]? = some x ∧ x ≠ c
  | [], k, h => by simp [pre] at h
  | b :: l, k, h => by
    unfold pre at h
    split at h
    · simp at h
    · rename_i hb
      cases k with
      | zero => exact ⟨b, rfl, fun e => hb (by rw [e]; simp)⟩
      | succ k =>
        obtain ⟨x, h1, h2⟩ := pre_ne c l k (by simpa using h)
        exact ⟨x, by simpa using h1, h2⟩
theorem pre_eq (c : UInt8) : ∀ (l : List UInt8), (pre c l).length < l.length → l[(pre c l).length]? = some c
  | [], h => by simp [pre] at h
  | b :: l, h => by
    unfold pre at h ⊢
    split at h
    · rename_i hb
      rw [if_pos hb]
      have : b = c := by simpa using hb
      rw [this]
      rfl
    · rename_i hb
      rw [if_neg hb]
      have := pre_eq c l (by simpa using h)
      simpa using this
theorem byt_get {s : ByteArray} {e : Nat} {x : UInt8} (h : s.data.toList[e]? = some x) : byt s e = x.toNat := by
  obtain ⟨h1, h2⟩ := List.getElem?_eq_some_iff.1 h
  have hl : e < s.size := by rw [Array.length_toList] at h1; exact h1
  rw [← byt_at s e hl, ← h2]
  rfl
theorem ext_ext (s : ByteArray) (p E a : Nat) (h : E ≤ s.size) (_ : p + a ≤ E) : (s.extract p E).extract a (s.extract p E).size = s.extract (p + a) E := by
  have : (s.extract p E).size = E - p := by rw [ByteArray.size_extract]; omega
  rw [this]
  apply ByteArray.ext
  simp only [ByteArray.data_extract, Array.extract_extract]
  congr 1
  omega
theorem ext_mid (s : ByteArray) (p n : Nat) : s.extract p (p + n) = ofL ((s.data.toList.drop p).take n) := by
  apply ByteArray.ext
  apply Array.ext'
  simp [ofL, ByteArray.data_extract]
def hd3A : Array Value := #[.string ⟨#[83, 116, 111, 114, 101, 58, 32]⟩, .string ⟨#[77, 97, 115, 115, 58, 32]⟩, .string ⟨#[80, 114, 105, 111, 114, 105, 116, 121, 58, 32]⟩]
def hd0A : Array Value := #[.string ⟨#[]⟩, .string ⟨#[]⟩, .string ⟨#[]⟩]
theorem toBd3 (ps : Array (Nat × Value)) : Instr.build 38 ps = bdR 38 ps := rfl
theorem toSt3 (p v : Value) : Instr.storeAt 38 p v = storeR 38 p v := rfl
theorem bd_3 (w : World) : (bdR 38 #[(0, .string ⟨#[83, 116, 111, 114, 101, 58, 32]⟩), (1, .string ⟨#[77, 97, 115, 115, 58, 32]⟩), (2, .string ⟨#[80, 114, 105, 111, 114, 105, 116, 121, 58, 32]⟩)]).run Tryd.prog w = .ok (.agg hd3A) w := run_build w 38 _ _ (by kernel_rfl)
theorem size3A : (Tryd.prog.info? 38).map (·.size) = some 3 := by kernel_rfl
theorem st_3 (w : World) (g : Nat) (C D : Array Value) (hC : C.size = 3) (hD : D.size = 3) (h1 : D.all (·.oneCell') = true) (hg : w.heap[g]? = some (.cells C 38 (0, 0))) : (storeR 38 (.pointer (some ⟨g, 0, none⟩)) (.agg D)).run Tryd.prog w = .ok () (w.setRow g D) := by
  unfold storeR
  simp only [Instr.storeAt, Instr.sureAddr, Sem.run_bind, Sem.run_pure, Result.andThen_ok, run_storeVar_row w g 38 38 C D hg (by rw [size3A, hD]) (by rw [hD, hC]) h1]
/-- Where the document's ReadSign stands. -/
structure Rst2 (s : Sg) (w W : World) : Prop where
  res : W.heap[w.heap.size]? = some (.cells zS 23 (0, 0))
  row : W.heap[w.heap.size + 1]? = some (.cells s.arr 23 (0, 0))
  hd : W.heap[w.heap.size + 2]? = some (.cells hd3A 38 (0, 0))
  bel : Below w.heap.size w W
theorem Rst2.drewN {s : Sg} {w W : World} (h : Rst2 s w W) (k : Nat) : Rst2 s w (W.drewN k) := ⟨h.res, h.row, h.hd, Below.drewN' h.bel k⟩
theorem Rst2.head {s : Sg} {w W : World} (h : Rst2 s w W) (i : Nat) (hi : i < 3) : W.cell? ⟨w.heap.size + 2, i, none⟩ = some (.string (hdS (12 + i))) := by
  rw [cell_of_row _ _ _ _ _ _ h.hd]
  rcases (by omega : i = 0 ∨ i = 1 ∨ i = 2) with rfl | rfl | rfl <;> rfl
theorem Rst2.set {s s2 : Sg} {w W : World} (h : Rst2 s w W) (j : Nat) (v : Value) (h2 : (W.setCell ⟨w.heap.size + 1, j, none⟩ v).heap[w.heap.size + 1]? = some (.cells s2.arr 23 (0, 0))) : Rst2 s2 w (W.setCell ⟨w.heap.size + 1, j, none⟩ v) :=
  ⟨(heap_setCell_other _ _ _ _ (by simp)).trans h.res, h2, (heap_setCell_other _ _ _ _ (by simp)).trans h.hd, h.bel.setCell (by simp) _⟩
theorem Rst2.err {s : Sg} {w W : World} (h : Rst2 s w W) : (storeR 23 (.pointer (some ⟨w.heap.size, 0, none⟩)) (.agg zS)).run Tryd.prog W = .ok () (W.setRow w.heap.size zS) :=
  st_S W _ zS zS rfl rfl zS_one h.res
theorem Rst2.fin {s : Sg} {w W : World} (h : Rst2 s w W) : (W.setRow w.heap.size zS).heap[w.heap.size]? = some (.cells zS 23 (0, 0)) ∧ Below w.heap.size w (W.setRow w.heap.size zS) :=
  ⟨setRow_heap _ _ _ _ _ _ h.res, below_setRow h.bel (Nat.le_refl _) _⟩
attribute [local go_sem ↓] toBdS toStS toLdS toBd3 toSt3
set_option maxRecDepth 100000 in
set_option maxHeartbeats 6400000 in
theorem ReadSignR_any (s : ByteArray) (w : World) :
    Calls Tryd.prog 7 #[.string s] w fun e w' => e = .returned (RdV s.data.toList) ∧ Below w.heap.size w w' := by
  have hl : s.data.toList.length = s.size := Array.length_toList
  have bS := fun W => bd_S W
  have b3 := fun W => bd_3 W
  obtain ⟨W1, hW1⟩ : ∃ W1, (w.alloc (.cells #[.string ⟨#[]⟩, .bool false, .int .i64 0] 23)).alloc (.cells #[.string ⟨#[]⟩, .bool false, .int .i64 0] 23) = W1 := ⟨_, rfl⟩
  have z1 : W1.heap.size = w.heap.size + 2 := by rw [← hW1]; simp
  have r0 : W1.heap[w.heap.size]? = some (.cells zS 23 (0, 0)) := by rw [← hW1]; exact (heap_alloc_old _ _ (h := by simp)).trans (heap_alloc_new _ _)
  have r1 : W1.heap[w.heap.size + 1]? = some (.cells zS 23 (0, 0)) := by
    rw [← hW1]
    have := heap_alloc_new (w.alloc (.cells #[.string ⟨#[]⟩, .bool false, .int .i64 0] 23)) (.cells #[.string ⟨#[]⟩, .bool false, .int .i64 0] 23)
    have hz : (w.alloc (.cells #[.string ⟨#[]⟩, .bool false, .int .i64 0] 23)).heap.size = w.heap.size + 1 := by simp
    rw [hz] at this
    exact this
  have b1 : Below w.heap.size w W1 := by rw [← hW1]; exact ((Below.refl _ w).alloc (Nat.le_refl _) _).alloc (by simp) _
  by_cases hbig : 131072 < s.size
  · have hb' : (131072 : Int) < (s.size : Int) := by omega
    have HR : Hid (RdV s.data.toList = .tuple #[.agg zS, .int .i64 1, .int .i64 0]) := by show _ = _; unfold RdV rsV; rw [if_pos (by omega)]; rfl
    have ld := ld_S W1 (w.heap.size + 1) zS rfl r1
    have st := st_S W1 w.heap.size zS zS rfl rfl zS_one r0
    rw [← hW1] at ld st
    have HF : Hid ((W1.setRow w.heap.size zS).heap[w.heap.size]? = some (.cells zS 23 (0, 0)) ∧ Below w.heap.size w (W1.setRow w.heap.size zS)) := ⟨setRow_heap _ _ _ _ _ _ r0, below_setRow b1 (Nat.le_refl _) _⟩
    have HW1 : Hid _ := hW1
    clear hW1 b1 r0 r1 hl z1
    go_enter Tryd.func7, Tryd.ntmps7
    go_wp2
    rw [HW1.out]
    refine bodyPost_ret (results_S3 rfl _ _ w.heap.size zS rfl rfl HF.out.1) rfl ⟨?_, HF.out.2⟩
    rw [HR.out]
    rfl
  · have hb' : ¬ ((131072 : Int) < (s.size : Int)) := by omega
    obtain ⟨l, hll⟩ : ∃ l, l = s.data.toList := ⟨_, rfl⟩
    obtain ⟨R, hRR⟩ : ∃ R, R = rsV l := ⟨_, rfl⟩
    have HR : Hid (R = rdL l 3 12 zSg 0) := by show _ = _; rw [hRR]; unfold rsV; rw [if_neg (by rw [hll]; omega)]
    have HV : Hid (RdV s.data.toList = .tuple #[.agg R.2.2.arr, .int .i64 ((R.1 : Nat) : Int), .int .i64 ((R.2.1 : Nat) : Int)]) := by show _ = _; rw [hRR, hll]; rfl
    have HL : Hid (l = s.data.toList ∧ l.length = s.size ∧ s.size ≤ 131072) := ⟨hll, by rw [hll, hl], by omega⟩
    obtain ⟨W2, hW2⟩ : ∃ W2, (W1.alloc (.cells hd0A 38)).setRow (w.heap.size + 2) hd3A = W2 := ⟨_, rfl⟩
    have st := st_3 (W1.alloc (.cells hd0A 38)) (w.heap.size + 2) hd0A hd3A rfl rfl (by simp [hd3A, Value.oneCell']) (by rw [← z1]; exact heap_alloc_new _ _)
    rw [hW2, ← hW1] at st
    have HS0 : Hid (Rst2 zSg w W2) := by
      have q2 : (W1.alloc (.cells hd0A 38)).heap[w.heap.size + 2]? = some (.cells hd0A 38 (0, 0)) := by rw [← z1]; exact heap_alloc_new _ _
      rw [← hW2]
      refine ⟨?_, ?_, setRow_heap _ _ _ _ _ _ q2, below_setRow (b1.alloc (by omega) _) (by omega) _⟩
      · exact (setRow_other _ _ _ _ (by omega)).trans ((heap_alloc_old _ _ (h := by omega)).trans r0)
      · exact (setRow_other _ _ _ _ (by omega)).trans ((heap_alloc_old _ _ (h := by omega)).trans r1)
    unfold hd0A at st
    clear hW1 hW2 b1 r0 r1 z1 hl hll hRR hbig
    go_enter Tryd.func7, Tryd.ntmps7
    go_wp2_with fail
    clear st
    go_loopw [7, 8] (fun pv iv wr => ∃ (p i : Nat) (sg : Sg), pv = .int .i64 (p : Int) ∧ iv = .int .i64 (i : Int) ∧ i ≤ 3 ∧ p ≤ s.size ∧ Hid (rdL l (3 - i) (12 + i) sg p = R) ∧ Hid (Rst2 sg w wr)) (fun _ iv _ => 3 - (intOf iv).toNat)
    case atStart => exact ⟨0, 0, zSg, rfl, rfl, by omega, Nat.zero_le _, HR.out.symm, HS0⟩
    case round =>
      obtain ⟨p, i, sg, rfl, rfl, hi, hp, HA, HS⟩ := hrel
      by_cases hi3 : i < 3
      · have hi3' : (i : Int) < 3 := by omega
        obtain ⟨E, hE⟩ : ∃ E, E = p + (pre 10 (l.drop p)).length := ⟨_, rfl⟩
        have hdl : (l.drop p).length = s.size - p := by rw [List.length_drop, HL.out.2.1]
        have hpl := pre_len 10 (l.drop p)
        have HE : Hid (E = p + (pre 10 (l.drop p)).length ∧ E ≤ s.size ∧ (l.drop p).length = s.size - p) := ⟨hE, by omega, hdl⟩
        clear hE hdl hpl
        obtain ⟨W, rfl⟩ : ∃ W, W = wr := ⟨_, rfl⟩
        go_wp2_with fail
        go_loopw [9] (fun ev wi => wi = W ∧ ∃ (e : Nat), ev = .int .i64 (e : Int) ∧ p ≤ e ∧ e ≤ E) (fun ev _ => s.size - (intOf ev).toNat)
        case atStart => exact ⟨rfl, p, rfl, Nat.le_refl _, by have := HE.out.1; omega⟩
        case round =>
          obtain ⟨hwi, e, rfl, he1, he2⟩ := hrel
          subst hwi
          by_cases hlt : e < E
          · have hes : e < s.size := by have := HE.out.2.1; omega
            have hes' : (e : Int) < (s.size : Int) := by omega
            have ix := idx9 wr s e hes
            have hne : ¬ (((byt s e : Nat) : Int) = 10) := by
              obtain ⟨x, h1, h2⟩ := pre_ne 10 (l.drop p) (e - p) (by have := HE.out.1; omega)
              rw [List.getElem?_drop, show p + (e - p) = e by omega, HL.out.1] at h1
              rw [byt_get h1]
              intro h
              exact h2 (u8_eq (by have : x.toNat = 10 := by omega
                                  exact this))
            have w1 : IntKind.i64.wrap ((e : Int) + 1) = (e : Int) + 1 := by rw [IntKind.wrap_i64]; have := HL.out; omega
            have HQ : Hid (e < E ∧ p ≤ e ∧ e < s.size) := ⟨hlt, he1, hes⟩
            clear he1 he2 hlt hes
            go_wp2_with fail
            go_roundw
            case rel => exact ⟨trivial, e + 1, by go_num, by have := HQ.out; omega, by have := HQ.out; omega⟩
            case measure => have := HQ.out; simp [intOf]; omega
          obtain rfl : E = e := by omega
          clear he1 he2 hlt
          have hEs : E ≤ s.size := HE.out.2.1
          by_cases hn : E < s.size
          · have hn' : (E : Int) < (s.size : Int) := by omega
            have hnn : ¬ ((E : Int) = (s.size : Int)) := by omega
            have ix := idx9 wr s E hn
            have h10 : ((byt s E : Nat) : Int) = 10 := by
              have h1 := pre_eq 10 (l.drop p) (by have := HE.out; omega)
              rw [List.getElem?_drop, ← HE.out.1, HL.out.1] at h1
              rw [byt_get h1]
              rfl
            rw [h10] at ix
            have i1 : (0 : Int) ≤ (p : Int) := by omega
            have i2 : (p : Int) ≤ (E : Int) := by have := HE.out.1; omega
            have i3 : (E : Int) ≤ (s.size : Int) := by omega
            obtain ⟨L, hL⟩ : ∃ L, s.extract p E = L := ⟨_, rfl⟩
            have hLl : L = ofL (pre 10 (l.drop p)) := by rw [← hL, HE.out.1, ext_mid, ← HL.out.1, pre_take]
            have hLz : L.size = E - p := by rw [← hL, ByteArray.size_extract]; omega
            obtain ⟨H, hH⟩ : ∃ H, hdS (12 + i) = H := ⟨_, rfl⟩
            have hdk : ∀ k, (wr.drewN k).cell? ⟨w.heap.size + 2, i, none⟩ = some (.string H) := fun k => by rw [← hH]; exact (HS.out.drewN k).head i hi3
            have HA2 := HA.out
            rw [show 3 - i = (2 - i) + 1 by omega, rdL, if_neg (not_not_intro (show (pre 10 (l.drop p)).length < (l.drop p).length by have := HE.out; omega)), ← hLl, hH] at HA2
            by_cases hq : pf L H = true
            · rw [if_neg (not_not_intro hq)] at HA2
              have hle := pf_le hq
              have CS : Hid (∀ W, Calls Tryd.prog 13 #[.string L, .string H] W fun e w' => e = .returned (.bool true) ∧ w' = W) := fun W => by rw [← hq]; exact starts_any L H W
              obtain ⟨fr, hfr⟩ : ∃ fr, fr = p + H.size := ⟨_, rfl⟩
              obtain ⟨v, hv⟩ : ∃ v, s.extract fr E = v := ⟨_, rfl⟩
              have hvL : L.extract H.size L.size = v := by rw [← hL, ext_ext s p E H.size hEs (by omega), ← hfr, hv]
              rw [hvL, ← hfr] at HA2
              have w1 : IntKind.i64.wrap ((p : Int) + (H.size : Int)) = (fr : Int) := by rw [IntKind.wrap_i64]; have := HL.out; omega
              have i4 : (fr : Int) ≤ (E : Int) := by omega
              have i5 : (0 : Int) ≤ (fr : Int) := by omega
              have w2 : IntKind.i64.wrap ((E : Int) + 1) = (E : Int) + 1 := by rw [IntKind.wrap_i64]; have := HL.out; omega
              have HE2 : Hid (E = p + (pre 10 (l.drop p)).length ∧ E < s.size) := ⟨HE.out.1, hn⟩
              rw [← HE2.out.1] at HA2
              have HA3 : Hid _ := HA2
              clear HA2 HA hvL hfr hle hLz hLl hq h10 hn hEs hH HE
              go_wp2_with fail
              go_quiet ((go_at_call 13; exact Calls.quiet_of_same (CS.out _)))
              clear CS ix
              rcases (by omega : i = 0 ∨ i = 1 ∨ i = 2) with rfl | rfl | rfl
              · have q0 : ∀ k, (wr.drewN k).cell? ⟨w.heap.size + 1, 0, none⟩ = some (.string sg.st) := fun k => (sgA_cells (st := sg.st) (m := sg.m) (pr := (sg.pr : Int)) (HS.out.drewN k).row).1
                have f0 : ∀ k, (wr.drewN k).frozen? ⟨w.heap.size + 1, 0, none⟩ = false := fun k => frozen_of_row _ _ _ _ _ (HS.out.drewN k).row
                have HS2 : Hid (∀ k, Rst2 { sg with st := v } w ((wr.drewN k).setCell ⟨w.heap.size + 1, 0, none⟩ (.string v))) := fun k => (HS.out.drewN k).set 0 _ ((set_sgA (st := sg.st) (m := sg.m) (pr := (sg.pr : Int)) (HS.out.drewN k).row).1 v)
                have HA5 : Hid (if ¬ (v.toList == [47, 103, 114, 97, 102, 116, 47, 115, 116, 111, 114, 101]) = true then (101, fr, zSg) = R else rdL l 2 13 { sg with st := v } (E + 1) = R) := by
                  have := HA3.out
                  have e1 : tkV (12 + 0) v sg = ({ sg with st := v }, v.toList == [47, 103, 114, 97, 102, 116, 47, 115, 116, 111, 114, 101]) := rfl
                  rw [e1] at this
                  show ite _ _ _
                  split
                  · rename_i hc
                    rw [if_pos hc] at this
                    exact this
                  · rename_i hc
                    rw [if_neg hc] at this
                    exact this
                cases hvv : (v.toList == [47, 103, 114, 97, 102, 116, 47, 115, 116, 111, 114, 101]) with
                | true =>
                  rw [hvv] at HA5
                  clear HA3 HS
                  go_wp2_with fail
                  go_roundw
                  case rel => exact ⟨E + 1, 1, _, by go_num, rfl, by omega, HE2.out.2, HA5.out, HS2.out _⟩
                  case measure => simp [intOf]
                | false =>
                  rw [hvv] at HA5
                  have HA4 : Hid (R = (101, fr, zSg)) := HA5.out.symm
                  have st := fun k => (HS2.out k).err
                  have HF : Hid (∀ k, (((wr.drewN k).setCell ⟨w.heap.size + 1, 0, none⟩ (.string v)).setRow w.heap.size zS).heap[w.heap.size]? = some (.cells zS 23 (0, 0)) ∧ Below w.heap.size w (((wr.drewN k).setCell ⟨w.heap.size + 1, 0, none⟩ (.string v)).setRow w.heap.size zS)) := fun k => (HS2.out k).fin
                  clear HA3 HS HA5 HS2
                  go_wp2_with fail
                  refine bodyPost_ret (results_S3 rfl _ _ w.heap.size zS rfl rfl (HF.out _).1) rfl ⟨?_, (HF.out _).2⟩
                  rw [HV.out, HA4.out]
                  rfl
              · have q1 : ∀ k, (wr.drewN k).cell? ⟨w.heap.size + 1, 1, none⟩ = some (.bool sg.m) := fun k => (sgA_cells (st := sg.st) (m := sg.m) (pr := (sg.pr : Int)) (HS.out.drewN k).row).2.1
                have f1 : ∀ k, (wr.drewN k).frozen? ⟨w.heap.size + 1, 1, none⟩ = false := fun k => frozen_of_row _ _ _ _ _ (HS.out.drewN k).row
                obtain ⟨x, hx⟩ : ∃ x : Bool, (v.toList == [49]) = x := ⟨_, rfl⟩
                obtain ⟨y, hy⟩ : ∃ y : Bool, (v.toList == [48]) = y := ⟨_, rfl⟩
                have HS2 : Hid (∀ k, Rst2 { sg with m := x } w ((wr.drewN k).setCell ⟨w.heap.size + 1, 1, none⟩ (.bool x))) := fun k => (HS.out.drewN k).set 1 _ ((set_sgA (st := sg.st) (m := sg.m) (pr := (sg.pr : Int)) (HS.out.drewN k).row).2.1 x)
                have HA5 : Hid (if ¬ (y || x) = true then (101, fr, zSg) = R else rdL l 1 14 { sg with m := x } (E + 1) = R) := by
                  have h2 := HA3.out
                  have e1 : tkV (12 + 1) v sg = ({ sg with m := x }, y || x) := by rw [← hx, ← hy]; rfl
                  rw [e1] at h2
                  show ite _ _ _
                  split
                  · rename_i hc
                    rw [if_pos hc] at h2
                    exact h2
                  · rename_i hc
                    rw [if_neg hc] at h2
                    exact h2
                have st := fun k => (HS2.out k).err
                have HF : Hid (∀ k, (((wr.drewN k).setCell ⟨w.heap.size + 1, 1, none⟩ (.bool x)).setRow w.heap.size zS).heap[w.heap.size]? = some (.cells zS 23 (0, 0)) ∧ Below w.heap.size w (((wr.drewN k).setCell ⟨w.heap.size + 1, 1, none⟩ (.bool x)).setRow w.heap.size zS)) := fun k => (HS2.out k).fin
                clear HA3 HS
                cases y with
                | true =>
                  clear st HF
                  go_wp2_with fail
                  go_roundw
                  case rel => exact ⟨E + 1, 2, _, by go_num, rfl, by omega, HE2.out.2, HA5.out, HS2.out _⟩
                  case measure => simp [intOf]
                | false =>
                  cases x with
                  | true =>
                    clear st HF
                    go_wp2_with fail
                    go_roundw
                    case rel => exact ⟨E + 1, 2, _, by go_num, rfl, by omega, HE2.out.2, HA5.out, HS2.out _⟩
                    case measure => simp [intOf]
                  | false =>
                    have HA4 : Hid (R = (101, fr, zSg)) := HA5.out.symm
                    clear HA5 HS2
                    go_wp2_with fail
                    refine bodyPost_ret (results_S3 rfl _ _ w.heap.size zS rfl rfl (HF.out _).1) rfl ⟨?_, (HF.out _).2⟩
                    rw [HV.out, HA4.out]
                    rfl
              · have q2 : ∀ k, (wr.drewN k).cell? ⟨w.heap.size + 1, 2, none⟩ = some (.int .i64 (sg.pr : Int)) := fun k => (sgA_cells (st := sg.st) (m := sg.m) (pr := (sg.pr : Int)) (HS.out.drewN k).row).2.2
                have f2 : ∀ k, (wr.drewN k).frozen? ⟨w.heap.size + 1, 2, none⟩ = false := fun k => frozen_of_row _ _ _ _ _ (HS.out.drewN k).row
                have CN0 := fun W => number_any v W
                unfold nbT at CN0
                have hnb := nb_nm v.data.toList
                obtain ⟨n, hn⟩ : ∃ n, n = (nbV v.data.toList).1 := ⟨_, rfl⟩
                obtain ⟨ok, hok⟩ : ∃ ok, ok = (nbV v.data.toList).2 := ⟨_, rfl⟩
                rw [← hn, ← hok] at hnb
                simp only [← hn, ← hok] at CN0
                have CN : Hid (∀ W, Calls Tryd.prog 14 #[.string v] W fun e w' => e = .returned (.tuple #[.int .i64 (n : Int), .bool ok]) ∧ w' = W) := CN0
                have HS2 : Hid (∀ k, Rst2 { sg with pr := n } w ((wr.drewN k).setCell ⟨w.heap.size + 1, 2, none⟩ (.int .i64 (n : Int)))) := fun k => (HS.out.drewN k).set 2 _ ((set_sgA (st := sg.st) (m := sg.m) (pr := (sg.pr : Int)) (HS.out.drewN k).row).2.2 _)
                have q3 : ∀ k, ((wr.drewN k).setCell ⟨w.heap.size + 1, 2, none⟩ (.int .i64 (n : Int))).cell? ⟨w.heap.size + 1, 2, none⟩ = some (.int .i64 (n : Int)) := fun k => (sgA_cells (st := sg.st) (m := sg.m) (pr := (n : Int)) (HS2.out k).row).2.2
                have HA5 : Hid (if ok = true ∧ n ≤ 1000000 then rdL l 0 15 { sg with pr := n } (E + 1) = R else (101, fr, zSg) = R) := by
                  have h2 := HA3.out
                  have e1 : tkV (12 + 2) v sg = ({ sg with pr := (nmV v.data.toList).getD 0 }, (nmV v.data.toList).isSome) := rfl
                  rw [e1, hnb] at h2
                  show ite _ _ _
                  split
                  · rename_i hc
                    rw [if_pos hc] at h2
                    exact h2
                  · rename_i hc
                    rw [if_neg hc] at h2
                    exact h2
                have st := fun k => (HS2.out k).err
                have HF : Hid (∀ k, (((wr.drewN k).setCell ⟨w.heap.size + 1, 2, none⟩ (.int .i64 (n : Int))).setRow w.heap.size zS).heap[w.heap.size]? = some (.cells zS 23 (0, 0)) ∧ Below w.heap.size w (((wr.drewN k).setCell ⟨w.heap.size + 1, 2, none⟩ (.int .i64 (n : Int))).setRow w.heap.size zS)) := fun k => (HS2.out k).fin
                clear HA3 HS CN0 hn hok hnb
                cases ok with
                | false =>
                  have HA4 : Hid (R = (101, fr, zSg)) := by
                    have := HA5.out
                    rw [if_neg (by simp)] at this
                    exact this.symm
                  clear HA5 HS2
                  go_wp2_with fail
                  refine (CN.out _).mono ?_
                  rintro e w' ⟨rfl, rfl⟩
                  go_wp2_with fail
                  refine bodyPost_ret (results_S3 rfl _ _ w.heap.size zS rfl rfl (HF.out _).1) rfl ⟨?_, (HF.out _).2⟩
                  rw [HV.out, HA4.out]
                  rfl
                | true =>
                  by_cases hm : n ≤ 1000000
                  · have hm' : (n : Int) ≤ 1000000 := by omega
                    have HA6 : Hid (rdL l 0 15 { sg with pr := n } (E + 1) = R) := by
                      have := HA5.out
                      rw [if_pos ⟨rfl, hm⟩] at this
                      exact this
                    clear HA5 st HF hm
                    go_wp2_with fail
                    refine (CN.out _).mono ?_
                    rintro e w' ⟨rfl, rfl⟩
                    go_wp2_with fail
                    go_roundw
                    case rel => exact ⟨E + 1, 3, _, by go_num, rfl, by omega, HE2.out.2, HA6.out, HS2.out _⟩
                    case measure => simp [intOf]
                  · have hm' : ¬ ((n : Int) ≤ 1000000) := by omega
                    have HA4 : Hid (R = (101, fr, zSg)) := by
                      have := HA5.out
                      rw [if_neg (fun h => hm h.2)] at this
                      exact this.symm
                    clear HA5 HS2 hm
                    go_wp2_with fail
                    refine (CN.out _).mono ?_
                    rintro e w' ⟨rfl, rfl⟩
                    go_wp2_with fail
                    · refine bodyPost_ret (results_S3 rfl _ _ w.heap.size zS rfl rfl (HF.out _).1) rfl ⟨?_, (HF.out _).2⟩
                      rw [HV.out, HA4.out]
                      rfl
                    · exfalso
                      rename_i h
                      simp at h
                      omega
            · rw [if_pos hq] at HA2
              have hq' : pf L H = false := by simpa using hq
              have HA4 : Hid (R = (100, p, zSg)) := HA2.symm
              have CS : Hid (∀ W, Calls Tryd.prog 13 #[.string L, .string H] W fun e w' => e = .returned (.bool false) ∧ w' = W) := fun W => by rw [← hq']; exact starts_any L H W
              have st := fun k => (HS.out.drewN k).err
              have HF : Hid (∀ k, ((wr.drewN k).setRow w.heap.size zS).heap[w.heap.size]? = some (.cells zS 23 (0, 0)) ∧ Below w.heap.size w ((wr.drewN k).setRow w.heap.size zS)) := fun k => (HS.out.drewN k).fin
              clear HA2 HA hLz hLl hq hq' h10 hn hEs hH HE HS
              go_wp2_with fail
              go_quiet ((go_at_call 13; exact Calls.quiet_of_same (CS.out _)))
              go_wp2_with fail
              refine bodyPost_ret (results_S3 rfl _ _ w.heap.size zS rfl rfl (HF.out _).1) rfl ⟨?_, (HF.out _).2⟩
              rw [HV.out, HA4.out]
              rfl
          · have hn' : ¬ ((E : Int) < (s.size : Int)) := by omega
            have hnn : (E : Int) = (s.size : Int) := by omega
            have HA2 := HA.out
            rw [show 3 - i = (2 - i) + 1 by omega, rdL, if_pos (show ¬ (pre 10 (l.drop p)).length < (l.drop p).length by have := HE.out; omega), HL.out.2.1] at HA2
            have HA4 : Hid (R = (3, s.size, zSg)) := HA2.symm
            have st := HS.out.err
            have HF : Hid _ := HS.out.fin
            clear HA2 HA hn hEs HE HS
            go_wp2_with fail
            refine bodyPost_ret (results_S3 rfl _ _ w.heap.size zS rfl rfl HF.out.1) rfl ⟨?_, HF.out.2⟩
            rw [HV.out, HA4.out]
            rfl
      · have hi3' : ¬ ((i : Int) < 3) := by omega
        obtain rfl : i = 3 := by omega
        have HA2 := HA.out
        rw [show 3 - 3 = 0 by rfl, rdL, HL.out.2.1] at HA2
        by_cases hps : p < s.size
        · have hps' : (p : Int) < (s.size : Int) := by omega
          rw [if_pos hps] at HA2
          have HA4 : Hid (R = (4, p, zSg)) := HA2.symm
          have st := HS.out.err
          have HF : Hid _ := HS.out.fin
          clear HA2 HA hps HS
          go_wp2_with fail
          refine bodyPost_ret (results_S3 rfl _ _ w.heap.size zS rfl rfl HF.out.1) rfl ⟨?_, HF.out.2⟩
          rw [HV.out, HA4.out]
          rfl
        · have hps' : ¬ ((p : Int) < (s.size : Int)) := by omega
          rw [if_neg hps] at HA2
          have HA4 : Hid (R = (0, 0, sg)) := HA2.symm
          have ld := ld_S wr (w.heap.size + 1) sg.arr rfl HS.out.row
          have st := st_S wr w.heap.size zS sg.arr rfl rfl (sg_one sg) HS.out.res
          have HFN : Hid ((wr.setRow w.heap.size sg.arr).heap[w.heap.size]? = some (.cells sg.arr 23 (0, 0)) ∧ Below w.heap.size w (wr.setRow w.heap.size sg.arr)) := ⟨setRow_heap _ _ _ _ _ _ HS.out.res, below_setRow HS.out.bel (Nat.le_refl _) _⟩
          obtain ⟨C, hC⟩ : ∃ C, C = sg.arr := ⟨_, rfl⟩
          have HC : Hid (C = sg.arr ∧ C.size = 3) := ⟨hC, by rw [hC]; rfl⟩
          rw [← hC] at ld st HFN
          clear HA2 HA HS hps hC
          go_wp2_with fail
          refine bodyPost_ret (results_S3 rfl _ _ w.heap.size C HC.out.2 rfl HFN.out.1) rfl ⟨?_, HFN.out.2⟩
          rw [HV.out, HA4.out, HC.out.1]
          rfl
end Go.Proofs.YtgimkeklnpppjaaDoor
