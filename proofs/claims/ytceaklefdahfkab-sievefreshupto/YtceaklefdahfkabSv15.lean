/- The sieve's table: layBacks, the walk. -/
import Derived.Test.YtceaklefdahfkabSv14
import Derived.Deep.RegionWith
import Derived.Great.BuildSlice
import Derived.Deep.DrawnRows
namespace Go.Proofs.Ytceaklefdahfkab
open Go.RowKit
theorem Si.at {k : IntKind} {b off n c : Nat} {l : List Nat} {w : World} (h : Si k (.slice (some ⟨b, off, none⟩) n c) l w) (j : Nat) (hj : j < l.length) : w.cell? ⟨b, off + j, none⟩ = some (.int k ((l.getD j 0 : Nat) : Int)) := by
  rcases h with ⟨h, _⟩ | ⟨b', off', cap, h1, _, _, _, h6⟩
  · cases h
  · cases h1; exact h6 j hj
theorem Lz.cells {K g bb : Nat} {lv dv fv rv vv : Value} {t : Tbl} {w : World} (h : Lz K g bb lv dv fv rv vv t w) : w.cell? ⟨g, 1, none⟩ = some lv ∧ w.cell? ⟨g, 3, none⟩ = some fv ∧ w.cell? ⟨g, 4, none⟩ = some (.slice (some ⟨bb, 0, none⟩) t.backs.length t.backs.length) ∧ w.cell? ⟨g, 5, none⟩ = some rv :=
  ⟨(cell_of_row w g 1 _ _ _ h.row).trans rfl, (cell_of_row w g 3 _ _ _ h.row).trans rfl, (cell_of_row w g 4 _ _ _ h.row).trans rfl, (cell_of_row w g 5 _ _ _ h.row).trans rfl⟩
theorem Lz.drew {K g bb : Nat} {lv dv fv rv vv : Value} {t : Tbl} {w w' : World} (h : Lz K g bb lv dv fv rv vv t w) (h1 : w'.heap = w.heap) (h2 : w'.os = w.os) (h3 : w'.tape = w.tape) (h4 : w'.output = w.output) : Lz K g bb lv dv fv rv vv t w' :=
  h.keep (Below.same (Below.refl _ w) h1 h2 h3 h4)
def bsR (n : Nat) (ps : Array (Nat × Value)) : Sem Value := Instr.buildSlice 98 n ps
theorem toBsR (n : Nat) (ps : Array (Nat × Value)) : Instr.buildSlice 98 n ps = bsR n ps := rfl
set_option maxRecDepth 100000 in
theorem run_bsR (w : World) (r : List Nat) (hr : r.length = 256) : (bsR 1 #[(0, .agg (ik .i32 r))]).run Try.prog w = .ok (.slice (some ⟨w.heap.size, 0, none⟩) 1 1) (w.alloc (.cells (ik .i32 r) 121)) := by
  obtain ⟨i0, hi0, hz0, hz1, hz2⟩ := info_parts info118
  unfold bsR
  have hc : (Value.agg (ik .i32 r)).cells = ik .i32 r := rfl
  refine run_buildSlice w 98 121 1 _ (ik .i32 r) i0 _ (by kernel_rfl) hi0 hz0 (by rw [hz1]; omega) (by rw [hz1]; omega) ?_
  have h := Go.Great.fill_whole (s := 256) (by omega) [Value.agg (ik .i32 r)] ((Array.range (1 * i0.size)).map ((Value.agg (ik .i32 (List.replicate 256 0))).cells[· % (Value.agg (ik .i32 (List.replicate 256 0))).cells.size]!)) (by intro v hv; simp only [List.mem_singleton] at hv; subst hv; rw [hc, ik_size, hr]) (by rw [Array.size_map, Array.size_range, hz1]; rfl)
  rw [hz1] at h ⊢
  refine h.trans ?_
  simp [hc]
theorem toApR2 (ty : Nat) (vs : Array Value) : Builtin.append_ #[98, 98] ty vs = apR ty vs := rfl
theorem toBsR2 (n : Nat) (ps : Array (Nat × Value)) : Instr.buildSlice 98 n ps = bsR n ps := rfl
attribute [local go_sem ↓] toMkF toMkR toApR toBsR Go.wp_at_zero Go.wp_at_succ
set_option maxRecDepth 100000 in
set_option maxHeartbeats 1600000 in
theorem layBacks_any (g : Nat) (t : Tbl) (hk : Bk t) (hd : Bd t) (hlb : Byt t.letters) (hr : t.rows = []) (hbk : t.backs = List.replicate t.letters.length 0) (h2 : 2 ≤ t.firsts.length) (h1 : 0 < t.letters.length) (lv dv fv vv : Value) (w : World)
    (hrow : w.heap[g]? = some (.cells #[.int .i64 (t.width : Int), lv, dv, fv, .slice none 0 0, .slice none 0 0, vv] 100 (0, 0)))
    (hl : Sk w.heap.size g .u8 lv t.letters w) (hdd : Sk w.heap.size g .u8 dv t.depths w) (hf : Sk w.heap.size g .i32 fv t.firsts w) (hv : Sk w.heap.size g .i64 vv t.values w) :
    Calls Try.prog 75 #[.pointer (some ⟨g, 0, none⟩)] w fun e w' => e = .returned (.tuple #[]) ∧ (∃ bb rv, Lz w.heap.size g bb lv dv fv rv vv (lbS t (t.firsts.length - 1)) w') ∧ Below g w w' := by
  have gz : g < w.heap.size := (Array.getElem?_eq_some_iff.1 hrow).1
  obtain ⟨ol, cl, rfl, _, _, hlform⟩ := hl.1.form
  have hll := hd.ll
  have hfl := hd.fl
  obtain ⟨Wf, rf, Rf, Bf, zf⟩ := run_mkF w t.letters.length (by omega)
  have c1 : w.cell? ⟨g, 1, none⟩ = some (.slice ol t.letters.length cl) := (cell_of_row w g 1 _ _ _ hrow).trans rfl
  have rwf : Wf.heap[g]? = _ := (Bf.block g gz).trans hrow
  have c4 : Wf.cell? ⟨g, 4, none⟩ = some (.slice none 0 0) := (cell_of_row Wf g 4 _ _ _ rwf).trans rfl
  have z4 : Wf.frozen? ⟨g, 4, none⟩ = false := frozen_of_row Wf _ _ _ _ rwf
  obtain ⟨W1, hW1⟩ : ∃ W1, Wf.setCell ⟨g, 4, none⟩ (.slice (some ⟨w.heap.size, 0, none⟩) t.letters.length t.letters.length) = W1 := ⟨_, rfl⟩
  have o1 : ∀ j, j ≠ g → W1.heap[j]? = Wf.heap[j]? := fun j hj => by rw [← hW1]; exact heap_setCell_other _ _ _ _ hj
  have z1 : W1.heap.size = w.heap.size + 1 := by rw [← hW1]; simp [World.setCell, zf]
  have kp : ∀ j, j < w.heap.size → j ≠ g → W1.heap[j]? = w.heap[j]? := fun j hj hn => (o1 j hn).trans (Bf.block j hj)
  have hbl : t.backs.length = t.letters.length := by rw [hbk, List.length_replicate]
  have L1 : Lz w.heap.size g w.heap.size (.slice ol t.letters.length cl) dv fv (.slice none 0 0) vv t W1 := by
    refine ⟨?_, gz, Nat.le_refl _, hl.keep (by omega) fun j hj hn _ => kp j hj hn, hdd.keep (by omega) fun j hj hn _ => kp j hj hn, hf.keep (by omega) fun j hj hn _ => kp j hj hn, hv.keep (by omega) fun j hj hn _ => kp j hj hn, ?_, ?_, ?_, ?_, ?_⟩
    · rw [← hW1, hbl]; exact (heap_setCell_same _ _ _ _ _ _ rwf).trans rfl
    · rw [o1 _ (by omega), hbk]; exact Rf
    · unfold maxLen; omega
    · rw [hr]; exact World.ownsRow_nil _ _ _ _
    · intro e; cases e
    · rw [hr]; intro j hj; simp at hj
  have B1 : Below g w W1 := (Bf.mono (by omega)).trans ⟨by rw [← hW1]; rfl, by rw [← hW1]; rfl, by rw [← hW1]; rfl, by rw [← hW1]; simp [World.setCell], fun j hj => o1 j (by omega)⟩
  have CP : Hid _ := parts_any g t (by omega) W1 L1.tab
  obtain ⟨Wr, rr, Or, Br, zr⟩ := run_mkR W1 (min (t.firsts.length - 1) 64) w.heap.size (by omega) (by omega)
  have L2' := L1.keep Br
  have c5 : Wr.cell? ⟨g, 5, none⟩ = some (.slice none 0 0) := (cell_of_row Wr g 5 _ _ _ L2'.row).trans rfl
  have z5 : Wr.frozen? ⟨g, 5, none⟩ = false := frozen_of_row Wr _ _ _ _ L2'.row
  obtain ⟨W2, hW2⟩ : ∃ W2, Wr.setCell ⟨g, 5, none⟩ (.slice (some ⟨W1.heap.size, 0, none⟩) 0 (min (t.firsts.length - 1) 64)) = W2 := ⟨_, rfl⟩
  have o2 : ∀ j, j ≠ g → W2.heap[j]? = Wr.heap[j]? := fun j hj => by rw [← hW2]; exact heap_setCell_other _ _ _ _ hj
  have z2 : W2.heap.size = Wr.heap.size := by rw [← hW2]; simp [World.setCell]
  have L2 : Lz w.heap.size g w.heap.size (.slice ol t.letters.length cl) dv fv (.slice (some ⟨W1.heap.size, 0, none⟩) 0 (min (t.firsts.length - 1) 64)) vv t W2 := by
    refine ⟨?_, gz, Nat.le_refl _, L2'.l.keep (by omega) fun j _ hn _ => o2 j hn, L2'.d.keep (by omega) fun j _ hn _ => o2 j hn, L2'.f.keep (by omega) fun j _ hn _ => o2 j hn, L2'.v.keep (by omega) fun j _ hn _ => o2 j hn, (o2 _ (by omega)).trans L2'.bk, L2'.bm, ?_, ?_, L2'.rl⟩
    · rw [← hW2]; exact (heap_setCell_same _ _ _ _ _ _ L2'.row).trans rfl
    · rw [hr]; exact own_keep2 Or fun k hk => o2 k (by have e1 : W1.heap.size = k := Option.some.inj hk; omega)
    · intro e; have e1 : W1.heap.size = w.heap.size := Option.some.inj e; omega
  have HB2 : Hid (Below g w W2) := B1.trans ((Br.mono (by omega)).trans ⟨by rw [← hW2]; rfl, by rw [← hW2]; rfl, by rw [← hW2]; rfl, by omega, fun j hj => o2 j (by omega)⟩)
  have HL2 : Hid (∃ rv, Lz w.heap.size g w.heap.size (.slice ol t.letters.length cl) dv fv rv vv (lbS t 0) W2) := ⟨_, L2⟩
  have HOK : Hid (∀ s, s + 1 ≤ t.firsts.length → Bk (lbS t s) ∧ Bd (lbS t s) ∧ (lbS t s).rows.length = min s 64) := lbS_ok t hk hd hr
  have HLB : Hid (Byt t.letters) := hlb
  have HF2 : Hid (2 ≤ t.firsts.length ∧ t.firsts.length ≤ 1000000) := ⟨h2, hfl⟩
  have hp : Hid (t.firsts.length - 1 ≤ 1000000) := by show _ ≤ _; omega
  have HG : Hid (g < w.heap.size) := gz
  have ewp : IntKind.i32.wrap ((t.firsts.length - 1 : Nat) : Int) = ((t.firsts.length - 1 : Nat) : Int) := wi32 _ (by omega) (by omega)
  have emn : ∀ p : Nat, min (p : Int) 64 = ((min p 64 : Nat) : Int) := fun p => by omega
  obtain ⟨of', cf, rfl, _, _, hff⟩ := hf.1.form
  obtain ⟨bf, offf, rfl, _, _⟩ := hff (by omega)
  obtain ⟨bl, offl, rfl, _, _⟩ := hlform (by omega)
  clear hff hlform
  clear hrow hl hdd hf hv Rf Bf zf rwf o1 z1 kp L1 B1 Or Br zr L2' o2 z2 L2 hk hd hlb hr hbk h2 hll hfl hbl gz h1
  go_enter Try.func75, Try.ntmps75
  go_wp2_with fail
  refine Calls.mono CP.out ?_
  rintro e WW ⟨rfl, rfl⟩
  go_wp2_with fail
  clear rf c1 c4 z4 c5 z5 hW1 hW2 rr CP emn ewp
  go_loopw [24] (fun sv wr => ∃ s : Nat, sv = .int .i32 (s : Int) ∧ s ≤ t.firsts.length - 1 ∧ Hid (∃ rv, Lz w.heap.size g w.heap.size (.slice (some ⟨bl, offl, none⟩) t.letters.length cl) dv (.slice (some ⟨bf, offf, none⟩) t.firsts.length cf) rv vv (lbS t s) wr) ∧ Hid (Below g w wr)) (fun sv _ => t.firsts.length - 1 - (intOf sv).toNat)
  case atStart => exact ⟨0, rfl, by omega, HL2, HB2⟩
  case round =>
    clear HL2 HB2
    obtain ⟨s, rfl, hs, HLZ, HB⟩ := hrel
    by_cases hsp : s < t.firsts.length - 1
    · have hspi : (s : Int) < ((t.firsts.length - 1 : Nat) : Int) := by omega
      obtain ⟨k1, d1, r1⟩ := HOK.out s (by omega)
      obtain ⟨a1, a2, _⟩ := lbS_same t s
      have hsm : s ≤ 1000000 := by have := hp.out; omega
      have esw : IntKind.i32.wrap ((s : Int) + 1) = ((s + 1 : Nat) : Int) := by rw [wi32 _ (by omega) (by omega)]; omega
      have hs1 : s + 1 < t.firsts.length := by omega
      have HTK' : Bk (lbR (lbS t s) s) ∧ Bd (lbR (lbS t s) s) ∧ 0 < (lbR (lbS t s) s).rows.length ∧ (lbR (lbS t s) s).firsts = t.firsts ∧ (lbR (lbS t s) s).letters = t.letters := ⟨k1.lbR (by rw [a1]; exact hs1) r1, bd_lbR d1 s, by rw [lbR_rows _ s r1]; omega, (lbR_same _ s).1.trans a1, (lbR_same _ s).2.1.trans a2⟩
      obtain ⟨TT, hTT⟩ : ∃ TT, lbR (lbS t s) s = TT := ⟨_, rfl⟩
      have HTT : Hid (lbR (lbS t s) s = TT) := hTT
      rw [hTT] at HTK'
      have HTK : Hid (Bk TT ∧ Bd TT ∧ 0 < TT.rows.length ∧ TT.firsts = t.firsts ∧ TT.letters = t.letters) := HTK'
      clear HTK'
      obtain ⟨rv, LZ⟩ := HLZ.out
      obtain ⟨o, c, rfl⟩ := own_size LZ.rw
      have c5 := LZ.cells.2.2.2
      by_cases h64 : s < 64
      · have hn : (lbS t s).rows.length = s := by omega
        obtain ⟨D0, hD0⟩ : ∃ D0, wr.drew = D0 := ⟨_, rfl⟩
        have L0 := LZ.drew (w' := D0) (by rw [← hD0]; rfl) (by rw [← hD0]; rfl) (by rw [← hD0]; rfl) (by rw [← hD0]; rfl)
        have B0 : Below g w D0 := HB.out.trans (Below.same (Below.refl _ wr) (by rw [← hD0]; rfl) (by rw [← hD0]; rfl) (by rw [← hD0]; rfl) (by rw [← hD0]; rfl))
        have e5 := L0.cells.2.2.2
        have hbs : 0 < s → (lbS t s).backs.getD s 0 < (lbS t s).rows.length := fun h => by rw [hn]; exact k1.bs s h
        have CR : Hid _ := rowOf_any g (lbS t s) d1 (by rw [a2]; exact HLB.out) s (by rw [a1]; exact hs1) (k1.mono _ _ (by omega) (by rw [a1]; exact hs1)) (k1.last _ (by rw [a1]; exact hs1)) (fun h => ⟨(k1.nw h (by rw [a1]; exact hs1)).bl, hbs h⟩) (fun h => k1.rl _ (hbs h)) D0 L0.tab
        have hrl := k1.rwO_len hbs
        have ADD : Hid (∀ w', Below D0.heap.size D0 w' → ∃ o' c' P X, (bsR 1 #[(0, .agg (ik .i32 (rwO (lbS t s) s)))]).run Try.prog w' = .ok (.slice (some ⟨w'.heap.size, 0, none⟩) 1 1) (w'.alloc (.cells (ik .i32 (rwO (lbS t s) s)) 121)) ∧ (apR 98 #[.slice o s c, .slice (some ⟨w'.heap.size, 0, none⟩) 1 1]).run Try.prog (w'.alloc (.cells (ik .i32 (rwO (lbS t s) s)) 121)) = .ok (.slice o' (s + 1) c') P ∧ P.cell? ⟨g, 5, none⟩ = some (.slice o s c) ∧ P.frozen? ⟨g, 5, none⟩ = false ∧ P.setCell ⟨g, 5, none⟩ (.slice o' (s + 1) c') = X ∧ w'.cell? ⟨g, 5, none⟩ = some (.slice o s c) ∧ (w'.alloc (.cells (ik .i32 (rwO (lbS t s) s)) 121)).cell? ⟨g, 5, none⟩ = some (.slice o s c) ∧ Hid (∃ rv, Lz w.heap.size g w.heap.size (.slice (some ⟨bl, offl, none⟩) t.letters.length cl) dv (.slice (some ⟨bf, offf, none⟩) t.firsts.length cf) rv vv TT X) ∧ Hid (Below g w X)) := fun w' hb' => by
          have L1 := L0.keep hb'
          obtain ⟨v', P, q1, q2, q3, L2, q5⟩ := L1.addR _ hrl (by omega)
          obtain ⟨o', c', rfl⟩ := own_size L2.rw
          have e : TT = { lbS t s with rows := (lbS t s).rows ++ [rwO (lbS t s) s] } := by rw [← hTT, lbR, if_pos (by omega)]
          have hl2 : ({ lbS t s with rows := (lbS t s).rows ++ [rwO (lbS t s) s] } : Tbl).rows.length = s + 1 := by simp [hn]
          rw [hl2] at q1 L2 q5
          rw [hn] at q1 q2
          have x5 := L1.cells.2.2.2
          rw [hn] at x5
          have gz := HG.out
          have hz : w.heap.size ≤ w'.heap.size := Nat.le_trans (Nat.le_trans B0.size (Nat.le_refl _)) hb'.size
          refine ⟨o', c', P, _, run_bsR w' _ hrl, q1, q2, q3, rfl, x5, ?_, ⟨_, by rw [e]; exact L2⟩, B0.trans ((hb'.mono (by have := B0.size; omega)).trans (q5 g (Nat.le_refl _)))⟩
          have hr : (w'.alloc (.cells (ik .i32 (rwO (lbS t s) s)) 121)).heap[g]? = _ := (heap_alloc_old w' _ (h := by omega)).trans L1.row
          have := (cell_of_row _ g 5 _ _ _ hr).trans rfl
          rw [hn] at this
          exact this
        rw [hn] at c5 e5
        have hn64 : (s : Int) < 64 := by omega
        clear LZ L0 B0 k1 d1 r1 a1 a2 hbs hrl hn hsm hs1 HB HLZ h64 hTT
        revert CR ADD
        generalize rwO (lbS t s) s = rr
        intro CR ADD
        go_wp2_with fail
        go_region_with ((go_at_call 91; refine Calls.mono CR.out ?_; rintro e w' ⟨rfl, hb'⟩; obtain ⟨o', c', P, WX, r0, r1, r2, r3, r4, r5, r6, HLX, HBX⟩ := ADD.out w' hb'; clear hb'))
        all_goals clear c5 hD0 e5 hn64 CR ADD r0 r1 r2 r3 r4 r5 r6
        all_goals (
          by_cases h0 : s = 0
          · have h0i : (s : Int) = 0 := by omega
            have HL9 : Hid (∃ rv, Lz w.heap.size g w.heap.size (.slice (some ⟨bl, offl, none⟩) t.letters.length cl) dv (.slice (some ⟨bf, offf, none⟩) t.firsts.length cf) rv vv (lbS t (s + 1)) WX) := by
              show ∃ rv, _
              rw [lbS, if_pos h0, HTT.out]; exact HLX.out
            clear HLX
            go_wp2
            exact ⟨⟨s + 1, by subst h0; rfl, by omega, HL9, HBX⟩, by simp only [intOf]; omega⟩
          · have h0i : ¬ ((s : Int) = 0) := by omega
            have h0b : ((s : Int) == 0) = false := by rw [beq_eq_false_iff_ne]; exact h0i
            have h0p : 0 < s := by omega
            obtain ⟨rvx, LX⟩ := HLX.out
            obtain ⟨kT, dT, rT, fT, lT⟩ := HTK.out
            have hsf : s + 1 < TT.firsts.length := by rw [fT]; omega
            have cx3 := LX.cells.2.1
            have cxs := LX.f.1.at s (by omega)
            have hsi : (s : Int) < (t.firsts.length : Int) := by omega
            have hsj : (0 : Int) ≤ (s : Int) := by omega
            have HM : Hid (TT.firsts.getD s 0 ≤ TT.firsts.getD (s + 1) 0) := kT.mono _ _ (by omega) hsf
            have HSF : Hid (s + 1 < TT.firsts.length) := hsf
            have HH0 : Hid (0 < s) := h0p
            have HNS : Hid (¬ s = 0) := h0
            clear LX kT dT rT fT lT hsf h0 h0p
            go_wp2_with fail
            clear cx3 cxs hsi h0i
            go_loopw [4] (fun fv wr => ∃ k f : Nat, fv = .int .i32 (f : Int) ∧ Hid (f = TT.firsts.getD s 0 + k) ∧ Hid (f ≤ TT.firsts.getD (s + 1) 0) ∧ Hid (∃ rv, Lz w.heap.size g w.heap.size (.slice (some ⟨bl, offl, none⟩) t.letters.length cl) dv (.slice (some ⟨bf, offf, none⟩) t.firsts.length cf) rv vv (lbF TT s k) wr) ∧ Hid (Below g w wr)) (fun fv _ => TT.firsts.getD (s + 1) 0 - (intOf fv).toNat)
            case atStart => exact ⟨0, _, rfl, rfl, HM.out, HLX, HBX⟩
            case round =>
              clear HLX HBX
              obtain ⟨k, f, rfl, HF, HFE, HLK, HBK⟩ := hrel
              obtain ⟨kT, dT, rT, fT, lT⟩ := HTK.out
              obtain ⟨rvk, LK⟩ := HLK.out
              obtain ⟨e1, e2, e3, _⟩ := lbF_same TT s k
              have hsf := HSF.out
              have hf1 := HF.out
              have hf2 := HFE.out
              have kK := kT.lbF rT HH0.out hsf k (by omega)
              have dK := bd_lbF kT dT rT HH0.out hsf k (by omega)
              have cx3 := LK.cells.2.1
              have cxs := LK.f.1.at (s + 1) (by rw [e1]; exact hsf)
              rw [e1] at cxs
              have hs1i : ((s + 1 : Nat) : Int) < (t.firsts.length : Int) := by rw [← fT]; omega
              have hs1j : (0 : Int) ≤ ((s + 1 : Nat) : Int) := by omega
              have hfb := dT.f (s + 1)
              by_cases hlt : f < TT.firsts.getD (s + 1) 0
              · have hflt : (f : Int) < ((TT.firsts.getD (s + 1) 0 : Nat) : Int) := by omega
                have efw : IntKind.i32.wrap ((f : Int) + 1) = ((f + 1 : Nat) : Int) := by rw [wi32 _ (by omega) (by omega)]; omega
                have hfl := kT.last (s + 1) hsf
                have hflen : f < TT.letters.length := by omega
                obtain ⟨D0, hD0⟩ : ∃ D0, wr.drew = D0 := ⟨_, rfl⟩
                have L0 := LK.drew (w' := D0) (by rw [← hD0]; rfl) (by rw [← hD0]; rfl) (by rw [← hD0]; rfl) (by rw [← hD0]; rfl)
                have B0 : Below g w D0 := HBK.out.trans (Below.same (Below.refl _ wr) (by rw [← hD0]; rfl) (by rw [← hD0]; rfl) (by rw [← hD0]; rfl) (by rw [← hD0]; rfl))
                obtain ⟨x1, x3, x4, _⟩ := L0.cells
                have nbl : (lbF TT s k).backs.length = TT.letters.length := by rw [kK.bl, e2]
                rw [nbl] at x4
                have xl := L0.l.1.at f (by rw [e2]; exact hflen)
                rw [e2] at xl
                have hlow := kT.low s hsf
                have hmo := kT.mono s (s + 1) (by omega) hsf
                have hsl : s < TT.letters.length := by omega
                have xb : D0.cell? ⟨w.heap.size, s, none⟩ = some (.int .i32 (((lbF TT s k).backs.getD s 0 : Nat) : Int)) := (cell_of_row D0 _ s _ _ _ L0.bk).trans (ik_get _ _ s (by omega))
                have xf : D0.cell? ⟨w.heap.size, f, none⟩ = some (.int .i32 (((lbF TT s k).backs.getD f 0 : Nat) : Int)) := (cell_of_row D0 _ f _ _ _ L0.bk).trans (ik_get _ _ f (by omega))
                have xz : D0.frozen? ⟨w.heap.size, f, none⟩ = false := frozen_of_row D0 _ _ _ _ L0.bk
                have hc256 : TT.letters.getD f 0 < 256 := by
                  have : TT.letters.getD f 0 = TT.letters[f] := by simp [List.getD, hflen]
                  rw [this]
                  exact (lT ▸ HLB.out : Byt TT.letters) _ (List.getElem_mem _)
                have hbs := kK.bs s HH0.out
                have CN : Hid _ := next_any g (lbF TT s k) dK (by rw [e2, lT]; exact HLB.out) (TT.letters.getD f 0) hc256 ((lbF TT s k).backs.getD s 0) (dK.b s) (by rw [e3]; exact rT) (by rw [e2]; omega) (fun s' h1 h2 => kK.nw (by rw [e3] at h1; omega) (by rw [e1]; omega)) D0 L0.tab
                have HNX : Hid (lbF TT s (k + 1) = { lbF TT s k with backs := (lbF TT s k).backs.set f (nx (lbF TT s k) (TT.letters.getD f 0) ((lbF TT s k).backs.getD s 0 + 1) ((lbF TT s k).backs.getD s 0)) }) := by
                  show _ = _
                  rw [lbF, ← hf1]
                have HLN : Hid (∀ q, Hid (∃ rv, Lz w.heap.size g w.heap.size (.slice (some ⟨bl, offl, none⟩) t.letters.length cl) dv (.slice (some ⟨bf, offf, none⟩) t.firsts.length cf) rv vv (lbF TT s (k + 1)) ((D0.drewN q).setCell ⟨w.heap.size, f, none⟩ (.int .i32 ((nx (lbF TT s k) (TT.letters.getD f 0) ((lbF TT s k).backs.getD s 0 + 1) ((lbF TT s k).backs.getD s 0) : Nat) : Int))))) := fun q => by
                  have := (L0.drew (w' := D0.drewN q) rfl rfl rfl rfl).setB f (nx (lbF TT s k) (TT.letters.getD f 0) ((lbF TT s k).backs.getD s 0 + 1) ((lbF TT s k).backs.getD s 0))
                  show ∃ rv, _
                  rw [HNX.out]
                  exact ⟨_, this⟩
                have HBN : Hid (∀ q v, Hid (Below g w ((D0.drewN q).setCell ⟨w.heap.size, f, none⟩ v))) := fun q v => by
                  have gz := HG.out
                  exact B0.trans ⟨rfl, rfl, rfl, by simp [World.setCell, World.drewN], fun j hj => heap_setCell_other _ _ _ _ (by show j ≠ w.heap.size; omega)⟩
                have KS : Hid (∀ q v, ((D0.drewN q).setCell ⟨w.heap.size, f, none⟩ v).cell? ⟨g, 4, none⟩ = some (.slice (some ⟨w.heap.size, 0, none⟩) t.letters.length t.letters.length) ∧ ((D0.drewN q).setCell ⟨w.heap.size, f, none⟩ v).cell? ⟨g, 1, none⟩ = some (.slice (some ⟨bl, offl, none⟩) t.letters.length cl) ∧ ((D0.drewN q).setCell ⟨w.heap.size, f, none⟩ v).cell? ⟨w.heap.size, s, none⟩ = some (.int .i32 (((lbF TT s k).backs.getD s 0 : Nat) : Int)) ∧ ((D0.drewN q).setCell ⟨w.heap.size, f, none⟩ v).cell? ⟨bl, offl + f, none⟩ = some (.int .u8 ((TT.letters.getD f 0 : Nat) : Int))) := fun q v => by
                  have gz := HG.out
                  have blz := (L0.l.2 bl rfl).1
                  have ob : ∀ j, j ≠ w.heap.size → ((D0.drewN q).setCell ⟨w.heap.size, f, none⟩ v).heap[j]? = D0.heap[j]? := fun j hj => heap_setCell_other _ _ _ _ hj
                  have rowk : ((D0.drewN q).setCell ⟨w.heap.size, f, none⟩ v).heap[w.heap.size]? = some (.cells ((ik .i32 (lbF TT s k).backs).setIfInBounds f v) 21 (0, 0)) := heap_setCell_same (D0.drewN q) _ _ _ _ _ L0.bk
                  refine ⟨?_, (World.cell?_of_block (w := D0) (ob g (by omega))).trans x1, (cell_of_row _ _ s _ _ _ rowk).trans ?_, (World.cell?_of_block (w := D0) (ob bl (by omega))).trans xl⟩
                  · rw [← lT]; exact (World.cell?_of_block (w := D0) (ob g (by omega))).trans x4
                  · rw [Array.getElem?_setIfInBounds_ne (by omega)]; exact ik_get _ _ s (by omega)
                have HFN : Hid (f + 1 = TT.firsts.getD s 0 + (k + 1)) := by show _ = _; omega
                have HFM : Hid (f + 1 ≤ TT.firsts.getD (s + 1) 0) := by show _ ≤ _; omega
                have HMS : Hid (TT.firsts.getD (s + 1) 0 - (f + 1) < TT.firsts.getD (s + 1) 0 - f) := by show _ < _; omega
                have hb0 : (0 : Int) ≤ (((lbF TT s k).backs.getD s 0 : Nat) : Int) := by omega
                have hf0 : (0 : Int) ≤ (f : Int) := by omega
                have hfli : (f : Int) < (TT.letters.length : Int) := by omega
                have hsli : (s : Int) < (TT.letters.length : Int) := by omega
                have hfti : (f : Int) < (t.letters.length : Int) := by rw [← lT]; omega
                have hfltn : f < t.letters.length := by rw [← lT]; exact hflen
                rw [lT] at x4 hsl hfli hsli hflen
                clear lT hfti hfltn
                clear LK L0 B0 nbl hlow hmo hbs HNX hfl kK dK hf1 hf2 kT dT rT fT e1 e2 e3 hsf hfb hlt hc256 x3
                revert CN HLN KS xb xf xl cxs hflt HFM HMS
                generalize nx (lbF TT s k) (TT.letters.getD f 0) ((lbF TT s k).backs.getD s 0 + 1) ((lbF TT s k).backs.getD s 0) = y
                generalize (lbF TT s k).backs.getD s 0 = bs0, (lbF TT s k).backs.getD f 0 = bf0, TT.letters.getD f 0 = c0, TT.firsts.getD (s + 1) 0 = e0
                intro cxs hflt xl xb xf CN HLN KS HFM HMS
                go_wp2_with fail
                go_region_held3 (fun w' => w'.cell? ⟨g, 4, none⟩ = some (.slice (some ⟨w.heap.size, 0, none⟩) t.letters.length t.letters.length) ∧ w'.cell? ⟨g, 1, none⟩ = some (.slice (some ⟨bl, offl, none⟩) t.letters.length cl) ∧ w'.cell? ⟨w.heap.size, s, none⟩ = some (.int .i32 (bs0 : Int)) ∧ w'.cell? ⟨bl, offl + f, none⟩ = some (.int .u8 (c0 : Int))) (first | exact ⟨x4, x1, xb, xl⟩ | (rw [hD0]; exact ⟨x4, x1, xb, xl⟩) | exact KS.out _ _ | (rw [hD0]; exact KS.out _ _)) ((go_at_call 55; refine Calls.mono CN.out ?_; rintro e w' ⟨rfl, q, rfl⟩))
                all_goals go_wp2
                all_goals exact ⟨⟨k + 1, f + 1, rfl, HFN, HFM, HLN.out _, HBN.out _ _⟩, by simp only [intOf]; exact HMS.out⟩
              · have hflt : ¬ ((f : Int) < ((TT.firsts.getD (s + 1) 0 : Nat) : Int)) := by omega
                have HL9 : Hid (∃ rv, Lz w.heap.size g w.heap.size (.slice (some ⟨bl, offl, none⟩) t.letters.length cl) dv (.slice (some ⟨bf, offf, none⟩) t.firsts.length cf) rv vv (lbS t (s + 1)) wr) := by
                  show ∃ rv, _
                  rw [lbS, if_neg HNS.out, HTT.out, show TT.firsts.getD (s + 1) 0 - TT.firsts.getD s 0 = k by omega]; exact HLK.out
                clear LK HLK kK dK kT dT rT fT lT e1 e2 e3 hsf hf1 hf2 hfb
                revert cxs hflt
                generalize TT.firsts.getD (s + 1) 0 = e0
                intro cxs hflt
                go_wp2
                exact ⟨⟨s + 1, by rfl, by omega, HL9, HBK⟩, by simp only [intOf]; omega⟩)
      · have hn : (lbS t s).rows.length = 64 := by omega
        have HLX : Hid (∃ rv, Lz w.heap.size g w.heap.size (.slice (some ⟨bl, offl, none⟩) t.letters.length cl) dv (.slice (some ⟨bf, offf, none⟩) t.firsts.length cf) rv vv TT wr) := by
          show ∃ rv, _
          rw [← hTT, lbR, if_neg (by omega)]; exact HLZ.out
        have HBX := HB
        obtain ⟨WX, hWX⟩ : ∃ WX, WX = wr := ⟨_, rfl⟩
        subst hWX
        rw [hn] at c5
        clear LZ k1 d1 r1 a1 a2 hn hsm hs1 HB HLZ h64 hTT
        by_cases h0 : s = 0
        · have h0i : (s : Int) = 0 := by omega
          have HL9 : Hid (∃ rv, Lz w.heap.size g w.heap.size (.slice (some ⟨bl, offl, none⟩) t.letters.length cl) dv (.slice (some ⟨bf, offf, none⟩) t.firsts.length cf) rv vv (lbS t (s + 1)) WX) := by
            show ∃ rv, _
            rw [lbS, if_pos h0, HTT.out]; exact HLX.out
          clear HLX
          go_wp2
          exact ⟨⟨s + 1, by subst h0; rfl, by omega, HL9, HBX⟩, by simp only [intOf]; omega⟩
        · have h0i : ¬ ((s : Int) = 0) := by omega
          have h0b : ((s : Int) == 0) = false := by rw [beq_eq_false_iff_ne]; exact h0i
          have h0p : 0 < s := by omega
          obtain ⟨rvx, LX⟩ := HLX.out
          obtain ⟨kT, dT, rT, fT, lT⟩ := HTK.out
          have hsf : s + 1 < TT.firsts.length := by rw [fT]; omega
          have cx3 := LX.cells.2.1
          have cxs := LX.f.1.at s (by omega)
          have hsi : (s : Int) < (t.firsts.length : Int) := by omega
          have hsj : (0 : Int) ≤ (s : Int) := by omega
          have HM : Hid (TT.firsts.getD s 0 ≤ TT.firsts.getD (s + 1) 0) := kT.mono _ _ (by omega) hsf
          have HSF : Hid (s + 1 < TT.firsts.length) := hsf
          have HH0 : Hid (0 < s) := h0p
          have HNS : Hid (¬ s = 0) := h0
          clear LX kT dT rT fT lT hsf h0 h0p
          go_wp2_with fail
          clear cx3 cxs hsi h0i
          go_loopw [4] (fun fv wr => ∃ k f : Nat, fv = .int .i32 (f : Int) ∧ Hid (f = TT.firsts.getD s 0 + k) ∧ Hid (f ≤ TT.firsts.getD (s + 1) 0) ∧ Hid (∃ rv, Lz w.heap.size g w.heap.size (.slice (some ⟨bl, offl, none⟩) t.letters.length cl) dv (.slice (some ⟨bf, offf, none⟩) t.firsts.length cf) rv vv (lbF TT s k) wr) ∧ Hid (Below g w wr)) (fun fv _ => TT.firsts.getD (s + 1) 0 - (intOf fv).toNat)
          case atStart => exact ⟨0, _, rfl, rfl, HM.out, HLX, HBX⟩
          case round =>
            clear HLX HBX
            obtain ⟨k, f, rfl, HF, HFE, HLK, HBK⟩ := hrel
            obtain ⟨kT, dT, rT, fT, lT⟩ := HTK.out
            obtain ⟨rvk, LK⟩ := HLK.out
            obtain ⟨e1, e2, e3, _⟩ := lbF_same TT s k
            have hsf := HSF.out
            have hf1 := HF.out
            have hf2 := HFE.out
            have kK := kT.lbF rT HH0.out hsf k (by omega)
            have dK := bd_lbF kT dT rT HH0.out hsf k (by omega)
            have cx3 := LK.cells.2.1
            have cxs := LK.f.1.at (s + 1) (by rw [e1]; exact hsf)
            rw [e1] at cxs
            have hs1i : ((s + 1 : Nat) : Int) < (t.firsts.length : Int) := by rw [← fT]; omega
            have hs1j : (0 : Int) ≤ ((s + 1 : Nat) : Int) := by omega
            have hfb := dT.f (s + 1)
            by_cases hlt : f < TT.firsts.getD (s + 1) 0
            · have hflt : (f : Int) < ((TT.firsts.getD (s + 1) 0 : Nat) : Int) := by omega
              have efw : IntKind.i32.wrap ((f : Int) + 1) = ((f + 1 : Nat) : Int) := by rw [wi32 _ (by omega) (by omega)]; omega
              have hfl := kT.last (s + 1) hsf
              have hflen : f < TT.letters.length := by omega
              obtain ⟨D0, hD0⟩ : ∃ D0, wr.drew = D0 := ⟨_, rfl⟩
              have L0 := LK.drew (w' := D0) (by rw [← hD0]; rfl) (by rw [← hD0]; rfl) (by rw [← hD0]; rfl) (by rw [← hD0]; rfl)
              have B0 : Below g w D0 := HBK.out.trans (Below.same (Below.refl _ wr) (by rw [← hD0]; rfl) (by rw [← hD0]; rfl) (by rw [← hD0]; rfl) (by rw [← hD0]; rfl))
              obtain ⟨x1, x3, x4, _⟩ := L0.cells
              have nbl : (lbF TT s k).backs.length = TT.letters.length := by rw [kK.bl, e2]
              rw [nbl] at x4
              have xl := L0.l.1.at f (by rw [e2]; exact hflen)
              rw [e2] at xl
              have hlow := kT.low s hsf
              have hmo := kT.mono s (s + 1) (by omega) hsf
              have hsl : s < TT.letters.length := by omega
              have xb : D0.cell? ⟨w.heap.size, s, none⟩ = some (.int .i32 (((lbF TT s k).backs.getD s 0 : Nat) : Int)) := (cell_of_row D0 _ s _ _ _ L0.bk).trans (ik_get _ _ s (by omega))
              have xf : D0.cell? ⟨w.heap.size, f, none⟩ = some (.int .i32 (((lbF TT s k).backs.getD f 0 : Nat) : Int)) := (cell_of_row D0 _ f _ _ _ L0.bk).trans (ik_get _ _ f (by omega))
              have xz : D0.frozen? ⟨w.heap.size, f, none⟩ = false := frozen_of_row D0 _ _ _ _ L0.bk
              have hc256 : TT.letters.getD f 0 < 256 := by
                have : TT.letters.getD f 0 = TT.letters[f] := by simp [List.getD, hflen]
                rw [this]
                exact (lT ▸ HLB.out : Byt TT.letters) _ (List.getElem_mem _)
              have hbs := kK.bs s HH0.out
              have CN : Hid _ := next_any g (lbF TT s k) dK (by rw [e2, lT]; exact HLB.out) (TT.letters.getD f 0) hc256 ((lbF TT s k).backs.getD s 0) (dK.b s) (by rw [e3]; exact rT) (by rw [e2]; omega) (fun s' h1 h2 => kK.nw (by rw [e3] at h1; omega) (by rw [e1]; omega)) D0 L0.tab
              have HNX : Hid (lbF TT s (k + 1) = { lbF TT s k with backs := (lbF TT s k).backs.set f (nx (lbF TT s k) (TT.letters.getD f 0) ((lbF TT s k).backs.getD s 0 + 1) ((lbF TT s k).backs.getD s 0)) }) := by
                show _ = _
                rw [lbF, ← hf1]
              have HLN : Hid (∀ q, Hid (∃ rv, Lz w.heap.size g w.heap.size (.slice (some ⟨bl, offl, none⟩) t.letters.length cl) dv (.slice (some ⟨bf, offf, none⟩) t.firsts.length cf) rv vv (lbF TT s (k + 1)) ((D0.drewN q).setCell ⟨w.heap.size, f, none⟩ (.int .i32 ((nx (lbF TT s k) (TT.letters.getD f 0) ((lbF TT s k).backs.getD s 0 + 1) ((lbF TT s k).backs.getD s 0) : Nat) : Int))))) := fun q => by
                have := (L0.drew (w' := D0.drewN q) rfl rfl rfl rfl).setB f (nx (lbF TT s k) (TT.letters.getD f 0) ((lbF TT s k).backs.getD s 0 + 1) ((lbF TT s k).backs.getD s 0))
                show ∃ rv, _
                rw [HNX.out]
                exact ⟨_, this⟩
              have HBN : Hid (∀ q v, Hid (Below g w ((D0.drewN q).setCell ⟨w.heap.size, f, none⟩ v))) := fun q v => by
                have gz := HG.out
                exact B0.trans ⟨rfl, rfl, rfl, by simp [World.setCell, World.drewN], fun j hj => heap_setCell_other _ _ _ _ (by show j ≠ w.heap.size; omega)⟩
              have KS : Hid (∀ q v, ((D0.drewN q).setCell ⟨w.heap.size, f, none⟩ v).cell? ⟨g, 4, none⟩ = some (.slice (some ⟨w.heap.size, 0, none⟩) t.letters.length t.letters.length) ∧ ((D0.drewN q).setCell ⟨w.heap.size, f, none⟩ v).cell? ⟨g, 1, none⟩ = some (.slice (some ⟨bl, offl, none⟩) t.letters.length cl) ∧ ((D0.drewN q).setCell ⟨w.heap.size, f, none⟩ v).cell? ⟨w.heap.size, s, none⟩ = some (.int .i32 (((lbF TT s k).backs.getD s 0 : Nat) : Int)) ∧ ((D0.drewN q).setCell ⟨w.heap.size, f, none⟩ v).cell? ⟨bl, offl + f, none⟩ = some (.int .u8 ((TT.letters.getD f 0 : Nat) : Int))) := fun q v => by
                have gz := HG.out
                have blz := (L0.l.2 bl rfl).1
                have ob : ∀ j, j ≠ w.heap.size → ((D0.drewN q).setCell ⟨w.heap.size, f, none⟩ v).heap[j]? = D0.heap[j]? := fun j hj => heap_setCell_other _ _ _ _ hj
                have rowk : ((D0.drewN q).setCell ⟨w.heap.size, f, none⟩ v).heap[w.heap.size]? = some (.cells ((ik .i32 (lbF TT s k).backs).setIfInBounds f v) 21 (0, 0)) := heap_setCell_same (D0.drewN q) _ _ _ _ _ L0.bk
                refine ⟨?_, (World.cell?_of_block (w := D0) (ob g (by omega))).trans x1, (cell_of_row _ _ s _ _ _ rowk).trans ?_, (World.cell?_of_block (w := D0) (ob bl (by omega))).trans xl⟩
                · rw [← lT]; exact (World.cell?_of_block (w := D0) (ob g (by omega))).trans x4
                · rw [Array.getElem?_setIfInBounds_ne (by omega)]; exact ik_get _ _ s (by omega)
              have HFN : Hid (f + 1 = TT.firsts.getD s 0 + (k + 1)) := by show _ = _; omega
              have HFM : Hid (f + 1 ≤ TT.firsts.getD (s + 1) 0) := by show _ ≤ _; omega
              have HMS : Hid (TT.firsts.getD (s + 1) 0 - (f + 1) < TT.firsts.getD (s + 1) 0 - f) := by show _ < _; omega
              have hb0 : (0 : Int) ≤ (((lbF TT s k).backs.getD s 0 : Nat) : Int) := by omega
              have hf0 : (0 : Int) ≤ (f : Int) := by omega
              have hfli : (f : Int) < (TT.letters.length : Int) := by omega
              have hsli : (s : Int) < (TT.letters.length : Int) := by omega
              have hfti : (f : Int) < (t.letters.length : Int) := by rw [← lT]; omega
              have hfltn : f < t.letters.length := by rw [← lT]; exact hflen
              rw [lT] at x4 hsl hfli hsli hflen
              clear lT hfti hfltn
              clear LK L0 B0 nbl hlow hmo hbs HNX hfl kK dK hf1 hf2 kT dT rT fT e1 e2 e3 hsf hfb hlt hc256 x3
              revert CN HLN KS xb xf xl cxs hflt HFM HMS
              generalize nx (lbF TT s k) (TT.letters.getD f 0) ((lbF TT s k).backs.getD s 0 + 1) ((lbF TT s k).backs.getD s 0) = y
              generalize (lbF TT s k).backs.getD s 0 = bs0, (lbF TT s k).backs.getD f 0 = bf0, TT.letters.getD f 0 = c0, TT.firsts.getD (s + 1) 0 = e0
              intro cxs hflt xl xb xf CN HLN KS HFM HMS
              go_wp2_with fail
              go_region_held3 (fun w' => w'.cell? ⟨g, 4, none⟩ = some (.slice (some ⟨w.heap.size, 0, none⟩) t.letters.length t.letters.length) ∧ w'.cell? ⟨g, 1, none⟩ = some (.slice (some ⟨bl, offl, none⟩) t.letters.length cl) ∧ w'.cell? ⟨w.heap.size, s, none⟩ = some (.int .i32 (bs0 : Int)) ∧ w'.cell? ⟨bl, offl + f, none⟩ = some (.int .u8 (c0 : Int))) (first | exact ⟨x4, x1, xb, xl⟩ | (rw [hD0]; exact ⟨x4, x1, xb, xl⟩) | exact KS.out _ _ | (rw [hD0]; exact KS.out _ _)) ((go_at_call 55; refine Calls.mono CN.out ?_; rintro e w' ⟨rfl, q, rfl⟩))
              all_goals go_wp2
              all_goals exact ⟨⟨k + 1, f + 1, rfl, HFN, HFM, HLN.out _, HBN.out _ _⟩, by simp only [intOf]; exact HMS.out⟩
            · have hflt : ¬ ((f : Int) < ((TT.firsts.getD (s + 1) 0 : Nat) : Int)) := by omega
              have HL9 : Hid (∃ rv, Lz w.heap.size g w.heap.size (.slice (some ⟨bl, offl, none⟩) t.letters.length cl) dv (.slice (some ⟨bf, offf, none⟩) t.firsts.length cf) rv vv (lbS t (s + 1)) wr) := by
                show ∃ rv, _
                rw [lbS, if_neg HNS.out, HTT.out, show TT.firsts.getD (s + 1) 0 - TT.firsts.getD s 0 = k by omega]; exact HLK.out
              clear LK HLK kK dK kT dT rT fT lT e1 e2 e3 hsf hf1 hf2 hfb
              revert cxs hflt
              generalize TT.firsts.getD (s + 1) 0 = e0
              intro cxs hflt
              go_wp2
              exact ⟨⟨s + 1, by rfl, by omega, HL9, HBK⟩, by simp only [intOf]; omega⟩
    · have hspi : ¬ ((s : Int) < ((t.firsts.length - 1 : Nat) : Int)) := by omega
      have hse : s = t.firsts.length - 1 := by omega
      subst hse
      go_wp2_with fail
      go_end0
      exact ⟨rfl, ⟨_, HLZ.out⟩, HB.out⟩
end Go.Proofs.Ytceaklefdahfkab
