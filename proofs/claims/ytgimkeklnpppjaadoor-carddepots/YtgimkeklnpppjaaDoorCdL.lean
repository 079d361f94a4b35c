/- Package card: wrong, firstLine, readNumber. -/
import Derived.Test.YtgimkeklnpppjaaDoorCdK
import Derived.Laws.Tables
import Derived.Laws.CopyOwn
import Derived.Shelf.Lay
import Derived.Ground.NamesProg
import Derived.Lib.AppendIntMem
namespace Go.Proofs.YtgimkeklnpppjaaDoor
open Go.RowKit Go.Shelf
def storeR (ty : Nat) (p v : Value) : Sem Unit := Instr.storeAt ty p v
def loadR (ty : Nat) (p : Value) : Sem Value := Instr.loadAt ty p
def bdR (ty : Nat) (ps : Array (Nat × Value)) : Sem Value := Instr.build ty ps
theorem toBdF (ps : Array (Nat × Value)) : Instr.build 44 ps = bdR 44 ps := rfl
theorem toBdL (ps : Array (Nat × Value)) : Instr.build 50 ps = bdR 50 ps := rfl
theorem toBdS (ps : Array (Nat × Value)) : Instr.build 23 ps = bdR 23 ps := rfl
theorem toStF (p v : Value) : Instr.storeAt 44 p v = storeR 44 p v := rfl
theorem toStS (p v : Value) : Instr.storeAt 23 p v = storeR 23 p v := rfl
theorem toLdS (p : Value) : Instr.loadAt 23 p = loadR 23 p := rfl
theorem sizeFl : (Tryd.prog.info? 44).map (·.size) = some 3 := by kernel_rfl
theorem sizeSg : (Tryd.prog.info? 23).map (·.size) = some 3 := by kernel_rfl
theorem st_F (w : World) (g : Nat) (C D : Array Value) (hC : C.size = 3) (hD : D.size = 3) (h1 : D.all (·.oneCell') = true) (hg : w.heap[g]? = some (.cells C 44 (0, 0))) : (storeR 44 (.pointer (some ⟨g, 0, none⟩)) (.agg D)).run Tryd.prog w = .ok () (w.setRow g D) := by
  unfold storeR
  simp only [Instr.storeAt, Instr.sureAddr, Sem.run_bind, Sem.run_pure, Result.andThen_ok, run_storeVar_row w g 44 44 C D hg (by rw [sizeFl, hD]) (by rw [hD, hC]) h1]
theorem st_S (w : World) (g : Nat) (C D : Array Value) (hC : C.size = 3) (hD : D.size = 3) (h1 : D.all (·.oneCell') = true) (hg : w.heap[g]? = some (.cells C 23 (0, 0))) : (storeR 23 (.pointer (some ⟨g, 0, none⟩)) (.agg D)).run Tryd.prog w = .ok () (w.setRow g D) := by
  unfold storeR
  simp only [Instr.storeAt, Instr.sureAddr, Sem.run_bind, Sem.run_pure, Result.andThen_ok, run_storeVar_row w g 23 23 C D hg (by rw [sizeSg, hD]) (by rw [hD, hC]) h1]
theorem ld_S (w : World) (g : Nat) (C : Array Value) (hC : C.size = 3) (hg : w.heap[g]? = some (.cells C 23 (0, 0))) : (loadR 23 (.pointer (some ⟨g, 0, none⟩))).run Tryd.prog w = .ok (.agg C) w := by
  unfold loadR
  simp only [Instr.loadAt, Instr.sureAddr, Sem.run_bind, Sem.run_pure, Result.andThen_ok, run_loadVar_row w g 23 23 C (0, 0) _ hg Tryd.underlying23 rfl (by rw [sizeSg, hC])]
theorem bd_F3 (w : World) (t : TypeId) (p : Option Addr) (y z : Int) : (bdR 44 #[(0, .iface t (.pointer p)), (1, .int .i64 y), (2, .int .i64 z)]).run Tryd.prog w = .ok (.agg #[.iface t (.pointer p), .int .i64 y, .int .i64 z]) w := run_build w 44 _ _ (by kernel_rfl)
theorem bd_F2 (w : World) (t : TypeId) (p : Option Addr) (z : Int) : (bdR 44 #[(0, .iface t (.pointer p)), (2, .int .i64 z)]).run Tryd.prog w = .ok (.agg #[.iface t (.pointer p), .int .i64 0, .int .i64 z]) w := run_build w 44 _ _ (by kernel_rfl)
theorem bd_F1 (w : World) (t : TypeId) (p : Option Addr) : (bdR 44 #[(0, .iface t (.pointer p))]).run Tryd.prog w = .ok (.agg #[.iface t (.pointer p), .int .i64 0, .int .i64 0]) w := run_build w 44 _ _ (by kernel_rfl)
theorem bd_L (w : World) (x : Int) (t : TypeId) (v : Value) : (bdR 50 #[(0, .int .i64 x), (1, .iface t v)]).run Tryd.prog w = .ok (.agg #[.int .i64 x, .iface t v]) w := run_build w 50 _ _ (by kernel_rfl)
def zS : Array Value := #[.string ⟨#[]⟩, .bool false, .int .i64 0]
theorem bd_S (w : World) : (bdR 23 #[]).run Tryd.prog w = .ok (.agg zS) w := run_build w 23 _ _ (by kernel_rfl)
theorem results_c {fn : Func} {p : Tmp} (h : fn.results = #[.cell p 44]) (tmps : Array Value) (w : World) (g : Nat) (C : Array Value) (hC : C.size = 3)
    (hp : tmps.getD p undef = .pointer (some ⟨g, 0, none⟩)) (hg : w.heap[g]? = some (.cells C 44 (0, 0))) :
    (results fn tmps).run Tryd.prog w = .ok (.agg C) w := by
  have hp' : tmps[p]?.getD undef = .pointer (some ⟨g, 0, none⟩) := by simpa using hp
  simp [results, h, hp', asAddr, run_loadVar_row w g 44 44 C (0, 0) _ hg Tryd.underlying44 rfl (by rw [sizeFl, hC])]
attribute [local go_sem ↓] toBdF toStF
set_option maxRecDepth 100000 in
set_option maxHeartbeats 1000000 in
theorem wrong_any (f : Nat) (h1 : 12 ≤ f) (h2 : f ≤ 14) (S : Sen) (w : World) (hw : Wd S w) :
    Calls Tryd.prog 26 #[.int .i64 (f : Int)] w fun e w' => e = .returned (.agg (fltA S.fi (f : Int) (((hdS f).size : Nat) : Int))) ∧ Below w.heap.size w w' := by
  obtain ⟨W0, hW0⟩ : ∃ W0, w.alloc (.cells #[.nilIface, .int .i64 0, .int .i64 0] 44) = W0 := ⟨_, rfl⟩
  have b0 : Below w.heap.size w W0 := by rw [← hW0]; exact (Below.refl _ w).alloc (Nat.le_refl _) _
  have r0 : W0.heap[w.heap.size]? = some (.cells #[.nilIface, .int .i64 0, .int .i64 0] 44 (0, 0)) := by rw [← hW0]; exact heap_alloc_new _ _
  have hw0 := hw.below b0
  have hc : (w.alloc (.cells #[.nilIface, .int .i64 0, .int .i64 0] 44)).cell? ⟨5, f, none⟩ = some (.string (hdS f)) := by rw [hW0]; exact hw0.hd f h1 h2
  have hf : (w.alloc (.cells #[.nilIface, .int .i64 0, .int .i64 0] 44)).cell? ⟨7, 0, none⟩ = some (.iface 135 (.pointer (some S.fi))) := by rw [hW0]; exact hw0.fi
  obtain ⟨n, hn⟩ : ∃ n, n = (hdS f).size := ⟨_, rfl⟩
  obtain ⟨H, hH⟩ : ∃ H, H = hdS f := ⟨_, rfl⟩
  rw [← hH] at hc hn
  have i1 : (0 : Int) ≤ (f : Int) := by omega
  have i2 : (f : Int) < 15 := by omega
  have i3 : ¬ ((f : Int) = 11) := by omega
  have bF := fun W => bd_F3 W 135 (some S.fi) (f : Int) (H.size : Int)
  have st := st_F W0 w.heap.size _ #[.iface 135 (.pointer (some S.fi)), .int .i64 (f : Int), .int .i64 (H.size : Int)] rfl rfl (by simp [Value.oneCell']) r0
  rw [← hW0] at st
  have HR : Hid ((W0.setRow w.heap.size #[.iface 135 (.pointer (some S.fi)), .int .i64 (f : Int), .int .i64 (H.size : Int)]).heap[w.heap.size]? = some (.cells #[.iface 135 (.pointer (some S.fi)), .int .i64 (f : Int), .int .i64 (H.size : Int)] 44 (0, 0))) := setRow_heap _ _ _ _ _ _ r0
  have HB : Hid (Below w.heap.size w (W0.setRow w.heap.size #[.iface 135 (.pointer (some S.fi)), .int .i64 (f : Int), .int .i64 (H.size : Int)])) := below_setRow b0 (Nat.le_refl _) _
  rw [← hW0] at HR HB
  have HH : Hid (H = hdS f) := hH
  clear hW0 b0 r0 hw0 hw hH hn n h1 h2
  go_enter Tryd.func26, Tryd.ntmps26
  go_wp2
  refine bodyPost_ret (results_c rfl _ _ w.heap.size _ rfl rfl HR.out) rfl ⟨?_, HB.out⟩
  rw [← HH.out]
  rfl
/-- Numbers: what readNumber answers. -/
def nmT (l : List UInt8) : Value := match nmV l with
  | some n => .tuple #[.int .i64 (n : Int), .bool true]
  | none => .tuple #[.int .i64 0, .bool false]
shelf_lay LaysM.n171 Nm 171 at Tryd as Tryd.itM
shelf_lay LaysC.n172 Nm 172 at Tryd as Tryd.aaL
theorem itoa_any (n : Nat) (h : n ≤ 1000000) (S : Sen) (w : World) (hw : Wd S w) : Calls Tryd.prog 16 #[.int .i64 (n : Int)] w fun e w' => e = .returned (.string ⟨(Lib.decDigits n).toArray⟩) ∧ Below w.heap.size w w' := by
  refine (Any.strconv_Itoa Tryd.itM (n : Int) (by omega) (by omega) w hw.pw).mono ?_
  rintro e w' ⟨rfl, k, os, rfl⟩
  refine ⟨?_, Lib.below_grow _ w (Nat.le_refl _) k os⟩
  congr 3
theorem atoi_any (s : ByteArray) (hs : s.size ≤ 281474976710656) (S : Sen) (w : World) (hw : Wd S w) : Calls Tryd.prog 36 #[.string s] w fun e w' => (∃ (n : Int) (ev : Value), e = .returned (.tuple #[.int .i64 n, ev]) ∧ ((ev = .nilIface ∧ Lib.atoiAll s.data.toList = .ok n ∧ -9223372036854775808 ≤ n ∧ n ≤ 9223372036854775807) ∨ ((∀ v, Lib.atoiAll s.data.toList ≠ .ok v) ∧ ∃ t p, ev = .iface t p))) ∧ Below w.heap.size w w' := by
  cases ha : Lib.atoiAll s.data.toList with
  | ok v =>
    refine (Any.strconv_Atoi_ok Tryd.aaL s (by omega) v ha w).mono ?_
    rintro e w' ⟨rfl, h1⟩
    refine ⟨⟨v, _, rfl, .inl ⟨rfl, rfl, Lib.atoiAll_bounds ha⟩⟩, ?_⟩
    rcases h1 with rfl | ⟨t, rfl⟩
    · exact Below.refl _ _
    · exact Lib.bytesWorld_below _ _ _
  | «syntax» =>
    obtain ⟨te, pe, hc⟩ := hw.es
    refine (Any.strconv_Atoi_syntax Tryd.aaL s hs ha _ w hc (.inr ⟨te, pe, rfl⟩)).mono ?_
    rintro e w' ⟨N, rfl, -, -, hb⟩
    exact ⟨⟨0, _, rfl, .inr ⟨(fun v h => by cases h), _, _, rfl⟩⟩, hb⟩
  | range =>
    obtain ⟨te, pe, hc⟩ := hw.er
    refine (Any.strconv_Atoi_range Tryd.aaL s hs ha _ w hc (.inr ⟨te, pe, rfl⟩)).mono ?_
    rintro e w' ⟨N, rfl, -, -, hb⟩
    exact ⟨⟨Lib.atoiSat s.data.toList, _, rfl, .inr ⟨(fun v h => by cases h), _, _, rfl⟩⟩, hb⟩
set_option maxRecDepth 100000 in
set_option maxHeartbeats 1000000 in
theorem readNumber_any (s : ByteArray) (hs : s.size ≤ 281474976710656) (S : Sen) (w : World) (hw : Wd S w) :
    Calls Tryd.prog 25 #[.string s, .int .i64 1000000] w fun e w' => e = .returned (nmT s.data.toList) ∧ Below w.heap.size w w' := by
  have CA : Hid _ := atoi_any s hs S w hw
  have HW : Hid (Wd S w) := hw
  have HNO : Hid ((∀ n : Nat, n ≤ 1000000 → Lib.decDigits n ≠ s.data.toList) → nmT s.data.toList = .tuple #[.int .i64 0, .bool false]) := fun h => by
    unfold nmT
    cases hq : nmV s.data.toList with
    | none => rfl
    | some n => exact absurd (nmV_some hq).2 (h n (nmV_some hq).1)
  clear hw hs
  go_enter Tryd.func25, Tryd.ntmps25
  go_wp2_with fail
  refine Calls.mono CA.out ?_
  rintro e W1 ⟨⟨n, ev, rfl, hn⟩, b1⟩
  have HB1 : Hid (Below w.heap.size w W1) := b1
  clear CA b1
  rcases hn with ⟨rfl, ha, hlo, hhi⟩ | ⟨ha, te, pe, rfl⟩
  · by_cases h0 : n < 0
    · have HV : Hid (nmT s.data.toList = .tuple #[.int .i64 0, .bool false]) := HNO.out (fun m hm e => by
        rw [← e, atoi_dec m hm] at ha
        have := Lib.NumEnd.ok.inj ha
        omega)
      clear ha
      go_wp2
      go_ret2
      exact ⟨by rw [HV.out]; rfl, HB1.out⟩
    by_cases h1 : 1000000 < n
    · have HV : Hid (nmT s.data.toList = .tuple #[.int .i64 0, .bool false]) := HNO.out (fun m hm e => by
        rw [← e, atoi_dec m hm] at ha
        have := Lib.NumEnd.ok.inj ha
        omega)
      clear ha
      go_wp2
      go_ret2
      exact ⟨by rw [HV.out]; rfl, HB1.out⟩
    obtain ⟨m, rfl⟩ : ∃ m : Nat, n = (m : Int) := ⟨n.toNat, by omega⟩
    have hm : m ≤ 1000000 := by omega
    have CI : Hid _ := itoa_any m hm S W1 (HW.out.below HB1.out)
    obtain ⟨t, ht⟩ : ∃ t : ByteArray, t = ⟨(Lib.decDigits m).toArray⟩ := ⟨_, rfl⟩
    rw [← ht] at CI
    have htl : t.toList = Lib.decDigits m := by rw [ht, ByteArray.toList_eq]
    by_cases hq : Lib.decDigits m = s.data.toList
    · have HV : Hid (nmT s.data.toList = .tuple #[.int .i64 (m : Int), .bool true]) := by
        show _ = _
        unfold nmT
        rw [nmV_of hm hq]
      have heq : (t.toList == s.toList) = true := by rw [htl, hq, ByteArray.toList_eq]; simp
      clear ha hq ht htl hlo hhi hm
      go_wp2_with fail
      refine Calls.mono CI.out ?_
      rintro e W2 ⟨rfl, b2⟩
      have HB2 : Hid (Below w.heap.size w W2) := HB1.out.trans (b2.mono HB1.out.size)
      clear CI b2
      go_wp2
      go_ret2
      exact ⟨by rw [HV.out]; rfl, HB2.out⟩
    · have HV : Hid (nmT s.data.toList = .tuple #[.int .i64 0, .bool false]) := HNO.out (fun k hk e => by
        rw [← e, atoi_dec k hk] at ha
        have := Lib.NumEnd.ok.inj ha
        have hkm : k = m := by omega
        rw [hkm] at e
        exact hq e)
      have hne : (t.toList == s.toList) = false := by rw [htl, ByteArray.toList_eq]; exact beq_off hq
      clear ha hq ht htl hlo hhi hm
      go_wp2_with fail
      refine Calls.mono CI.out ?_
      rintro e W2 ⟨rfl, b2⟩
      have HB2 : Hid (Below w.heap.size w W2) := HB1.out.trans (b2.mono HB1.out.size)
      clear CI b2
      go_wp2
      go_ret2
      exact ⟨by rw [HV.out]; rfl, HB2.out⟩
  · have HV : Hid (nmT s.data.toList = .tuple #[.int .i64 0, .bool false]) := HNO.out (fun m hm e => by
      exact ha m (by rw [← e]; exact atoi_dec m hm))
    clear ha
    go_wp2
    go_ret2
    exact ⟨by rw [HV.out]; rfl, HB1.out⟩
end Go.Proofs.YtgimkeklnpppjaaDoor
