/- Package card: readSign. -/
import Derived.Test.YtgimkeklnpppjaaDoorCdO
namespace Go.Proofs.YtgimkeklnpppjaaDoor
open Go.RowKit Go.Shelf
def zSg : Sg := ⟨⟨#[]⟩, false, 0⟩
theorem zSg_arr : zSg.arr = zS := rfl
/-- A depot's own card read line by line: the error, the place, the card. -/
def rdL (l : List UInt8) : Nat → Nat → Sg → Nat → Nat × Nat × Sg
  | 0, _, s, p => if p < l.length then (4, p, zSg) else (0, 0, s)
  | n + 1, f, s, p =>
    if ¬ (pre 10 (l.drop p)).length < (l.drop p).length then (3, l.length, zSg)
    else if ¬ pf (ofL (pre 10 (l.drop p))) (hdS f) = true then (100, p, zSg)
    else if ¬ (tkV f ((ofL (pre 10 (l.drop p))).extract (hdS f).size (ofL (pre 10 (l.drop p))).size) s).2 = true then (101, p + (hdS f).size, zSg)
    else rdL l n (f + 1) (tkV f ((ofL (pre 10 (l.drop p))).extract (hdS f).size (ofL (pre 10 (l.drop p))).size) s).1 (p + (pre 10 (l.drop p)).length + 1)
def rsV (l : List UInt8) : Nat × Nat × Sg := if 131072 < l.length then (1, 0, zSg) else rdL l 3 12 zSg 0
/-- An error that says so. -/
def ErP (S : Sen) (en pl : Nat) (err : Value) : Prop :=
  (en = 1 ∧ pl = 0 ∧ err = flt S.lo 0 0) ∨ ∃ (b at_ : Nat) (a : Addr) (fld : Int), err = ln (b : Int) (flt a fld (at_ : Int)) ∧ b + at_ = pl ∧ pl ≤ 262144 ∧ ((en = 3 ∧ a = S.sh) ∨ (en = 4 ∧ a = S.ta) ∨ (en = 100 ∧ a = S.li) ∨ (en = 101 ∧ a = S.fi))
/-- What readSign answers. -/
def RsP (S : Sen) (l : List UInt8) (w : World) (e : Ending) (w' : World) : Prop :=
  Below w.heap.size w w' ∧ ((∃ err, e = .returned (.tuple #[.agg zS, err]) ∧ (rsV l).2.2 = zSg ∧ ErP S (rsV l).1 (rsV l).2.1 err) ∨ ((rsV l).1 = 0 ∧ (rsV l).2.1 = 0 ∧ e = .returned (.tuple #[.agg (rsV l).2.2.arr, .nilIface])))
theorem results_S2 {fn : Func} {p u : Tmp} (h : fn.results = #[.cell p 23, .tmp u]) (tmps : Array Value) (w : World) (g : Nat) (C : Array Value) (hC : C.size = 3)
    (hp : tmps.getD p undef = .pointer (some ⟨g, 0, none⟩)) (hg : w.heap[g]? = some (.cells C 23 (0, 0))) :
    (results fn tmps).run Tryd.prog w = .ok (.tuple #[.agg C, tmps.getD u undef]) w := by
  have hp' : tmps[p]?.getD undef = .pointer (some ⟨g, 0, none⟩) := by simpa using hp
  simp [results, h, hp', asAddr, run_loadVar_row w g 23 23 C (0, 0) _ hg Tryd.underlying23 rfl (by rw [sizeSg, hC])]
theorem sg_one (s : Sg) : s.arr.all (·.oneCell') = true := by simp [Sg.arr, sgA, Value.oneCell']
theorem zS_one : zS.all (·.oneCell') = true := by simp [zS, Value.oneCell']
/-- Where readSign stands. -/
structure Rst (s : Sg) (w W : World) : Prop where
  res : W.heap[w.heap.size]? = some (.cells zS 23 (0, 0))
  row : W.heap[w.heap.size + 1]? = some (.cells s.arr 23 (0, 0))
  bel : Below w.heap.size w W
theorem Rst.below {s : Sg} {w W W' : World} (h : Rst s w W) (b : Below W.heap.size W W') : Rst s w W' :=
  ⟨(b.block _ (Array.getElem?_eq_some_iff.1 h.res).1).trans h.res, (b.block _ (Array.getElem?_eq_some_iff.1 h.row).1).trans h.row, h.bel.trans (b.mono h.bel.size)⟩
theorem Rst.drew {s : Sg} {w W : World} (h : Rst s w W) : Rst s w W.drew := ⟨h.res, h.row, h.bel.drew⟩
/-- The end with an error. -/
theorem rst_err {s : Sg} {w W : World} (h : Rst s w W) : (storeR 23 (.pointer (some ⟨w.heap.size, 0, none⟩)) (.agg zS)).run Tryd.prog W = .ok () (W.setRow w.heap.size zS) ∧ Hid ((W.setRow w.heap.size zS).heap[w.heap.size]? = some (.cells zS 23 (0, 0)) ∧ Below w.heap.size w (W.setRow w.heap.size zS)) :=
  ⟨st_S W _ zS zS rfl rfl zS_one h.res, setRow_heap _ _ _ _ _ _ h.res, below_setRow h.bel (Nat.le_refl _) _⟩
attribute [local go_sem ↓] toBdF toBdL toBdS toStS toLdS
set_option maxRecDepth 100000 in
set_option maxHeartbeats 6400000 in
theorem readSign_any (s : ByteArray) (S : Sen) (w : World) (hw : Wd S w) :
    Calls Tryd.prog 10 #[.string s] w (RsP S s.data.toList w) := by
  have hl : s.data.toList.length = s.size := Array.length_toList
  have bS := fun W => bd_S W
  obtain ⟨W0, hW0⟩ : ∃ W0, w.alloc (.cells #[.string ⟨#[]⟩, .bool false, .int .i64 0] 23) = W0 := ⟨_, rfl⟩
  have b0 : Below w.heap.size w W0 := by rw [← hW0]; exact (Below.refl _ w).alloc (Nat.le_refl _) _
  have r0 : W0.heap[w.heap.size]? = some (.cells zS 23 (0, 0)) := by rw [← hW0]; exact heap_alloc_new _ _
  by_cases hbig : 131072 < s.size
  · have hb' : (131072 : Int) < (s.size : Int) := by omega
    have hR : rsV s.data.toList = (1, 0, zSg) := by unfold rsV; rw [if_pos (by omega)]
    have HR : Hid (rsV s.data.toList = (1, 0, zSg)) := hR
    have hlo : W0.drew.cell? ⟨0, 0, none⟩ = some (.iface 135 (.pointer (some S.lo))) := (hw.below b0).lo
    have bF := fun W => bd_F1 W 135 (some S.lo)
    have st := st_S W0.drew w.heap.size zS zS rfl rfl zS_one r0
    have st' : (storeR 23 (.pointer (some ⟨w.heap.size, 0, none⟩)) (.agg zS)).run Tryd.prog (w.alloc (.cells #[.string ⟨#[]⟩, .bool false, .int .i64 0] 23)).drew = .ok () (W0.drew.setRow w.heap.size zS) := by rw [hW0]; exact st
    have hlo' : (w.alloc (.cells #[.string ⟨#[]⟩, .bool false, .int .i64 0] 23)).drew.cell? ⟨0, 0, none⟩ = some (.iface 135 (.pointer (some S.lo))) := by rw [hW0]; exact hlo
    have hlo2 : (W0.drew.setRow w.heap.size zS).cell? ⟨0, 0, none⟩ = some (.iface 135 (.pointer (some S.lo))) := (World.cell?_of_block (w := W0.drew) (setRow_other _ _ _ _ (by have := hw.sz; simp; omega))).trans hlo
    have HF : Hid ((W0.drew.setRow w.heap.size zS).heap[w.heap.size]? = some (.cells zS 23 (0, 0)) ∧ Below w.heap.size w (W0.drew.setRow w.heap.size zS)) := ⟨setRow_heap _ _ _ _ _ _ r0, below_setRow b0.drew (Nat.le_refl _) _⟩
    clear hW0 b0 r0 hl hR hw st hlo
    go_enter Tryd.func10, Tryd.ntmps10
    go_wp2_with fail
    go_region
    all_goals
      go_wp2
      refine bodyPost_ret (results_S2 rfl _ _ w.heap.size zS rfl rfl HF.out.1) rfl ⟨HF.out.2, .inl ⟨_, rfl, ?_⟩⟩
      rw [HR.out]
      exact ⟨rfl, .inl ⟨rfl, rfl, rfl⟩⟩
  · have hb' : ¬ ((131072 : Int) < (s.size : Int)) := by omega
    obtain ⟨l, hll⟩ : ∃ l, l = s.data.toList := ⟨_, rfl⟩
    obtain ⟨R, hRR⟩ : ∃ R, R = rsV l := ⟨_, rfl⟩
    have HR : Hid (R = rdL l 3 12 zSg 0) := by show _ = _; rw [hRR]; unfold rsV; rw [if_neg (by rw [hll]; omega)]
    have HRR : Hid (rsV s.data.toList = R) := by show _ = _; rw [hRR, hll]
    have HL : Hid (l = s.data.toList ∧ l.length = s.size ∧ s.size ≤ 131072) := ⟨hll, by rw [hll, hl], by omega⟩
    obtain ⟨W1, hW1⟩ : ∃ W1, (w.alloc (.cells #[.string ⟨#[]⟩, .bool false, .int .i64 0] 23)).alloc (.cells #[.string ⟨#[]⟩, .bool false, .int .i64 0] 23) = W1 := ⟨_, rfl⟩
    have HS0 : Hid (Rst zSg w W1) := by
      rw [← hW1]
      refine ⟨(heap_alloc_old _ _ (h := by simp)).trans (heap_alloc_new _ _), ?_, ((Below.refl _ w).alloc (Nat.le_refl _) _).alloc (by simp) _⟩
      have := heap_alloc_new (w.alloc (.cells #[.string ⟨#[]⟩, .bool false, .int .i64 0] 23)) (.cells #[.string ⟨#[]⟩, .bool false, .int .i64 0] 23)
      have hz : (w.alloc (.cells #[.string ⟨#[]⟩, .bool false, .int .i64 0] 23)).heap.size = w.heap.size + 1 := by simp
      rw [hz] at this
      exact this
    have HW1 : Hid _ := hW1
    have HW : Hid (Wd S w) := hw
    clear hW1 hll hRR hW0 b0 r0 hl hw hbig
    go_enter Tryd.func10, Tryd.ntmps10
    go_wp2_with fail
    rw [HW1.out]
    go_loopw [5, 6] (fun av fv wr => ∃ (p f : Nat) (sg : Sg), av = .int .i64 (p : Int) ∧ fv = .int .i64 (f : Int) ∧ 12 ≤ f ∧ f ≤ 15 ∧ p ≤ s.size ∧ Hid (rdL l (15 - f) f sg p = R) ∧ Hid (Rst sg w wr)) (fun _ fv _ => 15 - (intOf fv).toNat)
    case atStart => exact ⟨0, 12, zSg, rfl, rfl, by omega, by omega, Nat.zero_le _, HR.out.symm, HS0⟩
    case round =>
      obtain ⟨p, f, sg, rfl, rfl, hf1, hf2, hp, HA, HS⟩ := hrel
      have hw1 := HW.out.below HS.out.bel
      by_cases hf : f ≤ 14
      · have hf' : (f : Int) ≤ 14 := by omega
        have i1 : (p : Int) ≤ (s.size : Int) := by omega
        have i2 : (0 : Int) ≤ (p : Int) := by omega
        obtain ⟨T, hT⟩ : ∃ T, T = s.extract p s.size := ⟨_, rfl⟩
        have hTl : T.data.toList = l.drop p := by rw [hT, ext_drop, HL.out.1]; simp [ofL]
        have hTz : T.size + p = s.size := by rw [hT, ByteArray.size_extract]; omega
        have hTL : (l.drop p).length = T.size := by rw [← hTl]; exact Array.length_toList
        have CF0 := firstLine_any T (by have := HL.out.2.2; omega) f hf1 hf S wr hw1
        rw [hTl] at CF0
        have HA2 := HA.out
        rw [show 15 - f = (14 - f) + 1 by omega, rdL] at HA2
        by_cases hn : (pre 10 (l.drop p)).length < (l.drop p).length
        · rw [if_neg (not_not_intro hn)] at HA2
          rw [flV, if_pos hn] at CF0
          obtain ⟨L, hL⟩ : ∃ L, L = ofL (pre 10 (l.drop p)) := ⟨_, rfl⟩
          have hLz : L.size = (pre 10 (l.drop p)).length := by rw [hL, ofL_size]
          rw [← hL] at HA2 CF0
          by_cases hq : pf L (hdS f) = true
          · rw [if_neg (not_not_intro hq)] at HA2
            rw [if_pos hq] at CF0
            have hle := pf_le hq
            obtain ⟨v, hv⟩ : ∃ v, v = L.extract (hdS f).size L.size := ⟨_, rfl⟩
            have hvz : v.size + (hdS f).size = L.size := by rw [hv, ByteArray.size_extract]; omega
            rw [← hv] at HA2 CF0
            have CF : Hid (Calls Tryd.prog 17 #[.string (s.extract p s.size), .int .i64 (f : Int), .int .i64 (f : Int)] wr fun e w' => e = .returned (.tuple #[.int .i64 (f : Int), .string v, .nilIface]) ∧ Below wr.heap.size wr w') := by rw [← hT]; exact CF0
            have HZ : Hid (v.size + (hdS f).size = L.size ∧ L.size < T.size ∧ T.size + p = s.size ∧ s.size ≤ 131072 ∧ L.size = (pre 10 (l.drop p)).length ∧ (hdS f).size ≤ 10) := ⟨hvz, by rw [hLz, ← hTL]; exact hn, hTz, HL.out.2.2, hLz, (hdS_size f).1⟩
            have HA3 : Hid _ := HA2
            have HF : Hid (12 ≤ f ∧ f ≤ 14) := ⟨hf1, hf⟩
            clear CF0 HA2 hvz hTz hTL hLz hle hv hL hT hTl hq hn hw1 hf1 hf2 hf HA
            go_wp2_with fail
            refine Calls.mono CF.out ?_
            rintro e W2 ⟨rfl, b2⟩
            have HS2 : Hid (Rst sg w W2) := HS.out.below b2
            have CT : Hid _ := take_any f HF.out.1 HF.out.2 (S := S) (v := v) (s := sg) (g := w.heap.size + 1) (w0 := w) (w := W2) (by have := HZ.out; omega) HW.out HS2.out.bel (by omega) HS2.out.row
            clear CF b2
            go_wp2_with fail
            refine Calls.mono CT.out ?_
            rintro e W3 ⟨he, hrow, hbel, hsz, hoth⟩
            have hres : W3.heap[w.heap.size]? = some (.cells zS 23 (0, 0)) := (hoth _ (Array.getElem?_eq_some_iff.1 HS2.out.res).1 (by omega)).trans HS2.out.res
            have HS3 : Hid (Rst (tkV f v sg).1 w W3) := ⟨hres, hrow, hbel⟩
            obtain ⟨s2, hs2⟩ : ∃ s2, s2 = (tkV f v sg).1 := ⟨_, rfl⟩
            rw [← hs2] at HS3 HA3
            obtain ⟨ok, hok⟩ : ∃ ok, ok = (tkV f v sg).2 := ⟨_, rfl⟩
            rw [← hok] at he HA3
            clear CT hrow hbel hsz hoth hres hs2 hok HS2
            cases ok with
            | true =>
              simp only [if_true] at he
              subst he
              have HA4 : Hid (rdL l (14 - f) (f + 1) s2 (p + (pre 10 (l.drop p)).length + 1) = R) := by
                have := HA3.out
                rw [if_neg (by decide)] at this
                exact this
              have CL0 := lengthOf_any f HF.out.1 HF.out.2 v (by have := HZ.out; omega) S W3 (HW.out.below HS3.out.bel)
              obtain ⟨k, hk⟩ : ∃ k, k = (hdS f).size + v.size + 1 := ⟨_, rfl⟩
              rw [← hk] at CL0
              have CL : Hid _ := CL0
              obtain ⟨p2, hp2⟩ : ∃ p2, p2 = p + k := ⟨_, rfl⟩
              have w1 : IntKind.i64.wrap ((p : Int) + (k : Int)) = (p2 : Int) := by have := HZ.out; rw [IntKind.wrap_i64]; omega
              have w2 : IntKind.i64.wrap ((f : Int) + 1) = (f : Int) + 1 := by have := HF.out; rw [IntKind.wrap_i64]; omega
              have HP2 : Hid (p2 = p + (pre 10 (l.drop p)).length + 1 ∧ p2 ≤ s.size) := ⟨by have := HZ.out; omega, by have := HZ.out; omega⟩
              clear CL0 hk hp2 HA3
              go_wp2_with fail
              refine Calls.mono CL.out ?_
              rintro e W4 ⟨rfl, hw4⟩
              have hw5 := hw4.symm
              subst hw5
              clear CL
              go_wp2_with fail
              go_roundw
              case rel => exact ⟨p2, f + 1, s2, rfl, by go_num, by have := HF.out; omega, by have := HF.out; omega, HP2.out.2, (by show _ = _; rw [HP2.out.1, show 15 - (f + 1) = 14 - f by omega]; exact HA4.out), HS3⟩
              case measure => have := HF.out; simp [intOf]; omega
            | false =>
              simp only [Bool.false_eq_true, if_false] at he
              rw [flt_eq] at he
              subst he
              have HA4 : Hid (R = (101, p + (hdS f).size, zSg)) := by
                have := HA3.out
                rw [if_pos (by decide)] at this
                exact this.symm
              obtain ⟨st, HFN⟩ := rst_err HS3.out
              have bL := fun W => bd_L W (p : Int) 44 (.agg (fltA S.fi (f : Int) (((hdS f).size : Nat) : Int)))
              obtain ⟨hz, hhz⟩ : ∃ hz, hz = (hdS f).size := ⟨_, rfl⟩
              rw [← hhz] at HA4 bL
              rw [← hhz]
              have HHZ : Hid (p + hz ≤ 262144) := by show _ ≤ _; have := HZ.out; omega
              clear HA3 hhz
              unfold fltA at bL ⊢
              go_wp2_with fail
              refine bodyPost_ret (results_S2 rfl _ _ w.heap.size zS rfl rfl HFN.out.1) rfl ⟨HFN.out.2, .inl ⟨_, rfl, ?_⟩⟩
              rw [HRR.out, HA4.out]
              exact ⟨rfl, .inr ⟨p, hz, S.fi, (f : Int), rfl, rfl, HHZ.out, .inr (.inr (.inr ⟨rfl, rfl⟩))⟩⟩
          · rw [if_pos hq] at HA2
            rw [if_neg hq, flt_eq] at CF0
            have CF : Hid (Calls Tryd.prog 17 #[.string (s.extract p s.size), .int .i64 (f : Int), .int .i64 (f : Int)] wr fun e w' => e = .returned (.tuple #[.int .i64 0, .string ⟨#[]⟩, .iface 44 (.agg (fltA S.li 0 0))]) ∧ Below wr.heap.size wr w') := by rw [← hT]; exact CF0
            have HA4 : Hid (R = (100, p, zSg)) := HA2.symm
            have HHZ : Hid (p + 0 ≤ 262144) := by show _ ≤ _; have := HL.out; omega
            clear CF0 HA2 hTz hTL hLz hL hT hTl hq hn hw1 hf1 hf2 hf HA
            unfold fltA at CF
            go_wp2_with fail
            refine Calls.mono CF.out ?_
            rintro e W2 ⟨rfl, b2⟩
            have HS2 : Hid (Rst sg w W2) := HS.out.below b2
            obtain ⟨st, HFN⟩ := rst_err HS2.out
            have bL := fun W => bd_L W (p : Int) 44 (.agg (fltA S.li 0 0))
            unfold fltA at bL
            clear CF b2
            go_wp2_with fail
            refine bodyPost_ret (results_S2 rfl _ _ w.heap.size zS rfl rfl HFN.out.1) rfl ⟨HFN.out.2, .inl ⟨_, rfl, ?_⟩⟩
            rw [HRR.out, HA4.out]
            exact ⟨rfl, .inr ⟨p, 0, S.li, 0, rfl, rfl, HHZ.out, .inr (.inr (.inl ⟨rfl, rfl⟩))⟩⟩
        · rw [if_pos hn] at HA2
          rw [flV, if_neg hn, flt_eq, hTL] at CF0
          have CF : Hid (Calls Tryd.prog 17 #[.string (s.extract p s.size), .int .i64 (f : Int), .int .i64 (f : Int)] wr fun e w' => e = .returned (.tuple #[.int .i64 0, .string ⟨#[]⟩, .iface 44 (.agg (fltA S.sh 0 (T.size : Int)))]) ∧ Below wr.heap.size wr w') := by rw [← hT]; exact CF0
          have HA4 : Hid (R = (3, l.length, zSg)) := HA2.symm
          have HHZ : Hid (p + T.size = l.length ∧ l.length ≤ 262144) := ⟨by have := HL.out; omega, by have := HL.out; omega⟩
          obtain ⟨tz, htz⟩ : ∃ tz, tz = T.size := ⟨_, rfl⟩
          rw [← htz] at CF HHZ
          clear CF0 HA2 hTz hTL hT hTl hn hw1 hf1 hf2 hf HA htz
          unfold fltA at CF
          go_wp2_with fail
          refine Calls.mono CF.out ?_
          rintro e W2 ⟨rfl, b2⟩
          have HS2 : Hid (Rst sg w W2) := HS.out.below b2
          obtain ⟨st, HFN⟩ := rst_err HS2.out
          have bL := fun W => bd_L W (p : Int) 44 (.agg (fltA S.sh 0 (tz : Int)))
          unfold fltA at bL
          clear CF b2
          go_wp2_with fail
          refine bodyPost_ret (results_S2 rfl _ _ w.heap.size zS rfl rfl HFN.out.1) rfl ⟨HFN.out.2, .inl ⟨_, rfl, ?_⟩⟩
          rw [HRR.out, HA4.out]
          exact ⟨rfl, .inr ⟨p, tz, S.sh, 0, rfl, HHZ.out.1, HHZ.out.2, .inl ⟨rfl, rfl⟩⟩⟩
      · obtain rfl : f = 15 := by omega
        have HA2 := HA.out
        rw [show 15 - 15 = 0 by omega, rdL, HL.out.2.1] at HA2
        by_cases hps : p < s.size
        · have hps' : (p : Int) < (s.size : Int) := by omega
          rw [if_pos hps] at HA2
          have HA4 : Hid (R = (4, p, zSg)) := HA2.symm
          have hta : wr.drew.cell? ⟨1, 0, none⟩ = some (.iface 135 (.pointer (some S.ta))) := hw1.ta
          have bF := fun W => bd_F1 W 135 (some S.ta)
          have bL := fun W => bd_L W (p : Int) 44 (.agg #[.iface 135 (.pointer (some S.ta)), .int .i64 0, .int .i64 0])
          obtain ⟨st, HFN⟩ := rst_err HS.out.drew
          have hta2 : (wr.drew.setRow w.heap.size zS).cell? ⟨1, 0, none⟩ = some (.iface 135 (.pointer (some S.ta))) := (World.cell?_of_block (w := wr.drew) (setRow_other _ _ _ _ (by have := HW.out.sz; simp; omega))).trans hta
          have HHZ : Hid (p + 0 ≤ 262144) := by show _ ≤ _; have := HL.out; omega
          clear HA2 HA hw1 HS hps
          go_wp2_with fail
          go_region
          all_goals
            go_wp2
            refine bodyPost_ret (results_S2 rfl _ _ w.heap.size zS rfl rfl HFN.out.1) rfl ⟨HFN.out.2, .inl ⟨_, rfl, ?_⟩⟩
            rw [HRR.out, HA4.out]
            exact ⟨rfl, .inr ⟨p, 0, S.ta, 0, rfl, rfl, HHZ.out, .inr (.inl ⟨rfl, rfl⟩)⟩⟩
        · have hps' : ¬ ((p : Int) < (s.size : Int)) := by omega
          rw [if_neg hps] at HA2
          have HA4 : Hid (R = (0, 0, sg)) := HA2.symm
          have ld := ld_S wr (w.heap.size + 1) sg.arr rfl HS.out.row
          have st := st_S wr w.heap.size zS sg.arr rfl rfl (sg_one sg) HS.out.res
          have HFN : Hid ((wr.setRow w.heap.size sg.arr).heap[w.heap.size]? = some (.cells sg.arr 23 (0, 0)) ∧ Below w.heap.size w (wr.setRow w.heap.size sg.arr)) := ⟨setRow_heap _ _ _ _ _ _ HS.out.res, below_setRow HS.out.bel (Nat.le_refl _) _⟩
          obtain ⟨C, hC⟩ : ∃ C, C = sg.arr := ⟨_, rfl⟩
          have HC : Hid (C = sg.arr ∧ C.size = 3) := ⟨hC, by rw [hC]; rfl⟩
          rw [← hC] at ld st HFN
          clear HA2 HA hw1 HS hps hC
          go_wp2_with fail
          refine bodyPost_ret (results_S2 rfl _ _ w.heap.size C HC.out.2 rfl HFN.out.1) rfl ⟨HFN.out.2, .inr ?_⟩
          rw [HRR.out, HA4.out]
          exact ⟨rfl, rfl, by rw [HC.out.1]; rfl⟩
end Go.Proofs.YtgimkeklnpppjaaDoor
