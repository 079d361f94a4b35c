/- Several texts in one: Lq1, NamesR, Lq2, Lq3, B32R, PrnR, HexR. -/
import Derived.Test.YteajpimonenopaaGreatDoorFg9
import Derived.Test.YteajpimonenopaaGreatDoorRd
import Derived.WalkKit
import Derived.WalkSpells
import Derived.WalkLawsBesides
import Derived.Laws.RangeAny
import Derived.Lib.OthersKept
import Derived.BigRegion
import Derived.Deep.DeepCutAuto
import Derived.Laws.BytesArg
import Derived.Test.YteajpimonenopaaGreatDoorHex
/- The document's unused, decimal. -/
namespace Go.Proofs.YteajpimonenopaaGreatDoor
open Go.RowKit Go.Shelf Go.Sort
set_option maxRecDepth 100000 in
set_option maxHeartbeats 2000000 in
theorem unR_any (f : Fg) (o : Option Addr) (c : Nat) (hv : f.v = .slice o f.L.length c) (hk1 : 1 ≤ f.k ∧ f.k ≤ 4) (w : World) :
    Calls Tryz.prog 55 #[.agg (fing f)] w fun e w' => e = .returned (.bool (!unV f)) ∧ Below w.heap.size w w' := by
  have f1 : (fing f)[1]? = some (.slice o f.L.length c) := by rw [← hv]; exact fing_head f 1 (by omega)
  have f2 : (fing f)[2]? = some (.bool f.self) := fing_head f 2 (by omega)
  have f3 : (fing f)[3]? = some (.string f.out) := fing_head f 3 (by omega)
  have f4 : (fing f)[4]? = some (.int .i64 f.ix) := fing_head f 4 (by omega)
  rw [unV_eq]
  have hk : f.k = 1 ∨ f.k = 2 ∨ f.k = 3 ∨ f.k = 4 := by omega
  clear hk1
  rcases hk with h | h | h | h
  all_goals
    rw [h]
    have f0 : (fing f)[0]? = some (.int .i64 f.k) := fing_head f 0 (by omega)
    rw [h] at f0
    clear h hv
    by_cases hz : f.L.length = 0
    · rw [hz] at f1 ⊢
      clear hz
      go_enter Tryz.func55, Tryz.ntmps55
      go_wp2_with fail
      all_goals
        go_ret
        refine ⟨?_, (Below.refl _ w).alloc (Nat.le_refl _) _⟩
        clear f0 f1 f2 f3 f4
        simp_all <;> rfl
    · have hp : (0 : Int) < (f.L.length : Int) := by omega
      have hd : decide ((f.L.length : Int) = 0) = false := decide_eq_false (by omega)
      rw [hd]
      clear hz hd
      go_enter Tryz.func55, Tryz.ntmps55
      go_wp2_with fail
      all_goals
        go_ret
        refine ⟨?_, (Below.refl _ w).alloc (Nat.le_refl _) _⟩
        clear f0 f1 f2 f3 f4
        simp_all <;> rfl
end Go.Proofs.YteajpimonenopaaGreatDoor

/- The document's half. -/
namespace Go.Proofs.YteajpimonenopaaGreatDoor
open Go.RowKit
set_option maxRecDepth 100000 in
set_option maxHeartbeats 1000000 in
theorem may_any (r : Nat) (w : World) :
    Calls Tryz.prog 34 #[.int .u8 (r : Int)] w fun e w' => e = .returned (.bool (mayN r)) ∧ w' = w := by
  go_enter Tryz.func34, Tryz.ntmps34
  go_wp2
  all_goals (go_ret; refine ⟨?_, rfl⟩)
  all_goals first
    | (rw [mayN_true (by omega)]; rfl)
    | (rw [mayN_false (by omega)]; rfl)
    | (show Ending.returned (Value.bool ((r : Int) == 43 || (r : Int) == 45 || (r : Int) == 46 || (r : Int) == 95 || (r : Int) == 63 || (r : Int) == 61)) = _; rw [last_eq (by omega)])
set_option maxRecDepth 100000 in
set_option maxHeartbeats 1000000 in
theorem ref_any (s : ByteArray) (w : World) :
    Calls Tryz.prog 25 #[.string s] w fun e w' => e = .returned (ans (checkN s)) ∧ w' = w := by
  obtain ⟨a, ha⟩ : ∃ a, a = checkN s := ⟨_, rfl⟩
  rw [← ha]
  by_cases h1 : 211 < s.size
  · have hE : a = (1, 0) := by rw [ha, checkN, if_pos h1]
    clear ha
    subst hE
    have h1' : (211 : Int) < (s.size : Int) := by omega
    go_enter Tryz.func25, Tryz.ntmps25
    go_wp2
    go_ret2
    exact ⟨rfl, rfl⟩
  have h1' : ¬ (211 : Int) < (s.size : Int) := by omega
  by_cases h2 : s.size = 0
  · have hE : a = (22, 0) := by rw [ha, checkN, if_neg h1, if_pos (.inl h2)]
    clear ha
    subst hE
    have h2' : (s.size : Int) = 0 := by omega
    go_enter Tryz.func25, Tryz.ntmps25
    go_wp2
    go_ret2
    exact ⟨rfl, rfl⟩
  have hpos : 0 < s.size := by omega
  by_cases h3 : byt s 0 = 46
  · have hE : a = (22, 0) := by rw [ha, checkN, if_neg h1, if_pos (.inr h3)]
    clear ha
    subst hE
    have h3' : (s[0]'hpos).toNat = 46 := by rw [byt_at]; exact h3
    clear h3
    go_enter Tryz.func25, Tryz.ntmps25
    go_wp2
    go_ret2
    exact ⟨rfl, rfl⟩
  have h3' : ¬ (s[0]'hpos).toNat = 46 := by rw [byt_at]; exact h3
  have HA : Hid (a = match badAt s s.size 0 with | some i => (22, i) | none => (0, 0)) := by
    show _ = _
    rw [ha, checkN, if_neg h1, if_neg (by omega)]
    rfl
  clear ha
  go_enter Tryz.func25, Tryz.ntmps25
  go_wp2
  · exfalso
    rename_i h
    simp only [beq_iff_eq] at h
    omega
  go_loopw [4] (fun i wr => ∃ (k fuel : Nat), i = .int .i64 (k : Int) ∧ Hid (badAt s fuel k = badAt s s.size 0) ∧ s.size ≤ k + fuel ∧ k ≤ s.size ∧ wr = w) (fun i _ => s.size - (intOf i).toNat)
  case atStart => exact ⟨0, s.size, rfl, rfl, by omega, by omega, rfl⟩
  case round =>
    obtain ⟨k, fuel, rfl, Hb, hf, hk, rfl⟩ := hrel
    by_cases hlt : k < s.size
    · obtain ⟨f, rfl⟩ : ∃ f, fuel = f + 1 := ⟨fuel - 1, by omega⟩
      have hlt' : (k : Int) < (s.size : Int) := by omega
      have hix := fun (w : World) => idx9 w s k hlt
      by_cases hm : mayN (byt s k) = true
      · go_wp2_with (go_at_call 34; refine (may_any (byt s k) _).mono ?_; rintro e w' ⟨rfl, rfl⟩; rw [hm])
        go_roundw
        case rel =>
          refine ⟨k + 1, f, by go_num, ?_, by omega, by omega, by trivial⟩
          have := Hb.out
          simp only [badAt, hlt, hm, if_true] at this
          exact this
        case measure => simp [intOf]; omega
      · have hm' : mayN (byt s k) = false := by simpa using hm
        have HE : Hid (a = (22, k)) := by
          have := Hb.out
          simp only [badAt, hlt, hm', if_true] at this
          have h2 := HA.out
          rw [← this] at h2
          exact h2
        go_wp2_with (go_at_call 34; refine (may_any (byt s k) _).mono ?_; rintro e w' ⟨rfl, rfl⟩; rw [hm'])
        go_ret2
        exact ⟨by rw [HE.out]; rfl, rfl⟩
    · have hlt' : ¬ (k : Int) < (s.size : Int) := by omega
      have HE : Hid (a = (0, 0)) := by
        have := Hb.out
        rw [badAt_end s fuel k hlt] at this
        have h2 := HA.out
        rw [← this] at h2
        exact h2
      go_wp2
      go_ret2
      exact ⟨by rw [HE.out]; rfl, rfl⟩
end Go.Proofs.YteajpimonenopaaGreatDoor

/- The document's fit. -/
namespace Go.Proofs.YteajpimonenopaaGreatDoor
open Go.RowKit Go.Shelf Go.Sort
theorem check_r (s : ByteArray) (E : Nat) (hE : E = okN s) (W : World) : ∃ F : Nat, Calls Tryz.prog 25 #[.string s] W fun e w' => e = .returned (.tuple #[.int .i64 (E : Int), .int .i64 (F : Int)]) ∧ w' = W :=
  ⟨(checkN s).2, by rw [hE]; exact ref_any s W⟩
attribute [local go_sem ↓] toFl
set_option maxRecDepth 100000 in
set_option maxHeartbeats 4000000 in
theorem fit_any (f : Fg) (w : World) (hv0 : Ls f.v f.L w) :
    Calls Tryz.prog 40 #[.agg (fing f)] w fun e w' => e = .returned (.int .i64 ((chkV f : Nat) : Int)) ∧ Below w.heap.size w w' := by
  obtain ⟨W0, hW0⟩ : ∃ W0, w.alloc (.cells (fing f) 44) = W0 := ⟨_, rfl⟩
  have b0 : Below w.heap.size w W0 := by rw [← hW0]; exact (Below.refl _ w).alloc (Nat.le_refl _) _
  have r0 : W0.heap[w.heap.size]? = some (.cells (fing f) 44 (0, 0)) := by rw [← hW0]; exact heap_alloc_new w _
  obtain ⟨o, c, hvv, hrr⟩ := (hv0.below b0).form2
  obtain ⟨q0, q1, q2, q3, q4, q37⟩ := fing_cells r0
  rw [hvv] at q1
  have HW0 : Hid (w.alloc (.cells (fing f) 44) = W0) := hW0
  have HB0 : Hid (Below w.heap.size w W0) := b0
  obtain ⟨n, hn0⟩ : ∃ n, n = f.L.length := ⟨_, rfl⟩
  rw [← hn0] at q1 hrr hvv
  have HN : Hid (n = f.L.length) := hn0
  have hnb : n ≤ 4398046511104 := by rw [hn0]; exact f.hn
  have HR : Hid (0 < n → ∃ b off, o = some ⟨b, off, none⟩ ∧ b < W0.heap.size ∧ Lr b off f.L W0) := hrr
  have HVV : Hid (f.v = .slice o n c) := hvv
  by_cases hk1 : 1 ≤ f.k ∧ f.k ≤ 4
  · have CE1 : chkV f = if unV f = true then 31 else if okN f.nm ≠ 0 then okN f.nm else if f.k = 3 ∧ okN f.out ≠ 0 then okN f.out else if ¬ (0 ≤ f.ix ∧ f.ix < 64) then 2 else refV f.L := by
      show (if _ then _ else _) = _
      rw [if_neg (by omega)]
    have CE : Hid _ := CE1
    have hka : ¬ (f.k < 1) := by omega
    have hkb : ¬ (4 < f.k) := by omega
    have ld := run_ldF W0 w.heap.size f r0
    have CU := unR_any f o c (by rw [← hn0]; exact hvv) hk1 W0
    obtain ⟨u, hu⟩ : ∃ u, u = unV f := ⟨_, rfl⟩
    rw [← hu] at CU
    have HCU : Hid _ := CU
    have HU : Hid (u = unV f) := hu
    obtain ⟨E, hE⟩ : ∃ E, E = okN f.nm := ⟨_, rfl⟩
    have HE : Hid (E = okN f.nm) := hE
    obtain ⟨G, hG⟩ : ∃ G, G = okN f.out := ⟨_, rfl⟩
    have HG : Hid (G = okN f.out) := hG
    have C1 : Hid (∀ W, ∃ F : Nat, Calls Tryz.prog 25 #[.string f.nm] W fun e w' => e = .returned (.tuple #[.int .i64 (E : Int), .int .i64 (F : Int)]) ∧ w' = W) := fun W => check_r f.nm E hE W
    have C2 : Hid (∀ W, ∃ F : Nat, Calls Tryz.prog 25 #[.string f.out] W fun e w' => e = .returned (.tuple #[.int .i64 (G : Int), .int .i64 (F : Int)]) ∧ w' = W) := fun W => check_r f.out G hG W
    have HR0 : Hid (W0.heap[w.heap.size]? = some (.cells (fing f) 44 (0, 0))) := r0
    rw [← hW0] at q0 q1 q2 q3 q4 q37 ld
    clear hW0 b0 r0 hvv hrr hn0 hk1 CE1 CU hu hE hG hv0
    go_enter Tryz.func40, Tryz.ntmps40
    go_wp2_with fail
    rw [HW0.out]
    refine Calls.mono HCU.out ?_
    rintro e W1 ⟨rfl, b1⟩
    have HB1 : Hid (Below w.heap.size w W1) := HB0.out.trans (b1.mono HB0.out.size)
    have HW1 : Hid (Below W0.heap.size W0 W1) := b1
    have r1 : W1.heap[w.heap.size]? = some (.cells (fing f) 44 (0, 0)) := (b1.block _ (Array.getElem?_eq_some_iff.1 HR0.out).1).trans HR0.out
    clear q0 q1 q2 q3 q4 q37 ld b1 HCU HR0
    obtain ⟨q0, q1, q2, q3, q4, q37⟩ := fing_cells r1
    rw [HVV.out] at q1
    clear r1
    cases u with
    | true =>
      have hv : Hid (chkV f = 31) := by show _ = _; rw [CE.out, if_pos HU.out.symm]
      go_wp2
      go_ret
      exact ⟨by rw [hv.out]; rfl, HB1.out⟩
    | false =>
      have CE2 : Hid (chkV f = if E ≠ 0 then E else if f.k = 3 ∧ G ≠ 0 then G else if ¬ (0 ≤ f.ix ∧ f.ix < 64) then 2 else refV f.L) := by
        show _ = _
        rw [CE.out, if_neg (by rw [← HU.out]; simp), HE.out, HG.out]
      clear CE
      obtain ⟨F, C⟩ := C1.out W1
      have HC : Hid _ := C
      clear C
      go_wp2_with fail
      refine Calls.mono HC.out ?_
      rintro e W2 ⟨rfl, rfl⟩
      clear HC
      by_cases h0 : E = 0
      · subst h0
        have CE3 : Hid (chkV f = if f.k = 3 ∧ G ≠ 0 then G else if ¬ (0 ≤ f.ix ∧ f.ix < 64) then 2 else refV f.L) := by show _ = _; rw [CE2.out, if_neg (by simp)]
        clear CE2
        go_upto_if 30 with fail
        go_cut [4] (fun s wc => ∃ G2 : Nat, s = .int .i64 (G2 : Int) ∧ wc = W2 ∧ Hid (chkV f = if ¬ (0 ≤ f.ix ∧ f.ix < 64) then 2 else refV f.L))
        case first =>
          by_cases h3 : f.k = 3
          · have h3' : (f.k == 3) = true := by rw [h3]; rfl
            obtain ⟨F2, C'⟩ := C2.out W2
            have HC2 : Hid _ := C'
            have HK3 : Hid (f.k = 3) := h3
            clear C' h3
            go_wp2_with fail
            refine Calls.mono HC2.out ?_
            rintro e W3 ⟨rfl, rfl⟩
            clear HC2
            by_cases hg : G = 0
            · have CE4 : Hid (chkV f = if ¬ (0 ≤ f.ix ∧ f.ix < 64) then 2 else refV f.L) := by show _ = _; rw [CE3.out, if_neg (by rw [hg]; simp)]
              subst hg
              go_wp2_with fail
              go_meet
              case rel => exact ⟨0, rfl, rfl, CE4⟩
            · have hv : Hid (chkV f = G) := by show _ = _; rw [CE3.out, if_pos ⟨HK3.out, hg⟩]
              have hg' : ¬ ((G : Int) = 0) := by omega
              go_wp2
              go_ret
              exact ⟨by rw [hv.out]; rfl, HB1.out⟩
          · have h3' : (f.k == 3) = false := by simpa using h3
            have CE4 : Hid (chkV f = if ¬ (0 ≤ f.ix ∧ f.ix < 64) then 2 else refV f.L) := by show _ = _; rw [CE3.out, if_neg (fun h => h3 h.1)]
            clear h3
            go_wp2_with fail
            go_meet
            case rel => exact ⟨0, rfl, rfl, CE4⟩
        case rest =>
          obtain ⟨G2, rfl, rfl, CE4⟩ := hcut
          clear CE3
          by_cases hi1 : f.ix < 0
          · have hv : Hid (chkV f = 2) := by show _ = _; rw [CE4.out, if_pos (by omega)]
            go_wp2
            go_ret
            exact ⟨by rw [hv.out]; rfl, HB1.out⟩
          · by_cases hi2 : 64 ≤ f.ix
            · have hv : Hid (chkV f = 2) := by show _ = _; rw [CE4.out, if_pos (by omega)]
              go_wp2
              go_ret
              exact ⟨by rw [hv.out]; rfl, HB1.out⟩
            · have CE5 : Hid (chkV f = refV f.L) := by show _ = _; rw [CE4.out, if_neg (by omega)]
              by_cases hbig : 256 < n
              · have hv : Hid (chkV f = 1) := by show _ = _; rw [CE5.out, refV, if_pos (by rw [← HN.out]; exact hbig)]
                have hbig' : (256 : Int) < (n : Int) := by omega
                go_wp2
                go_ret
                exact ⟨by rw [hv.out]; rfl, HB1.out⟩
              · have CE6 : Hid (chkV f = badN f.L) := by show _ = _; rw [CE5.out, refV, if_neg (by rw [← HN.out]; exact hbig)]
                have hbig' : ¬ ((256 : Int) < (n : Int)) := by omega
                clear CE4 CE5
                go_wp2_with fail
                go_loopw [4, 6] (fun ev iv wr => ∃ k G3 : Nat, ev = .int .i64 (G3 : Int) ∧ iv = .int .i64 (k : Int) ∧ k ≤ n ∧ Hid (badN f.L = badN (f.L.drop k)) ∧ wr = wc) (fun _ iv _ => n - (intOf iv).toNat)
                case atStart => exact ⟨0, G2, rfl, rfl, by omega, by show _ = _; rw [List.drop_zero], rfl⟩
                case round =>
                  obtain ⟨k, G3, rfl, rfl, hk, HBD, rfl⟩ := hrel
                  by_cases hlt : k < n
                  · have hlt' : (k : Int) < (n : Int) := by omega
                    have hk0 : (0 : Int) ≤ (k : Int) := by omega
                    obtain ⟨b, off, rfl, hbw, hr⟩ := HR.out (by omega)
                    obtain ⟨x, hx⟩ : ∃ x, f.L[k]? = some x := ⟨_, List.getElem?_eq_getElem (by have := HN.out; omega)⟩
                    have hcx : wr.cell? ⟨b, off + k * 21 + 20, none⟩ = some (.string x.s) := by
                      have h1 : (enc x)[20]? = some (.string x.s) := by
                        have := lab_name x.h x.s x.hl
                        simpa [enc] using this
                      exact (World.cell?_of_block (w := W0) (HW1.out.block b hbw)).trans (hr k x hx 20 _ h1)
                    obtain ⟨D, hD⟩ : ∃ D, D = okN x.s := ⟨_, rfl⟩
                    obtain ⟨F3, C3⟩ := check_r x.s D hD wr
                    have HC3 : Hid _ := C3
                    have HX : Hid (badN f.L = if D = 0 then badN (f.L.drop (k + 1)) else D) := by show _ = _; rw [HBD.out, badN_drop hx, hD]
                    clear C3 hx hr hD HBD
                    go_wp2_with fail
                    refine Calls.mono HC3.out ?_
                    rintro e W5 ⟨rfl, rfl⟩
                    clear HC3
                    by_cases hd0 : D = 0
                    · have HB2 : Hid (badN f.L = badN (f.L.drop (k + 1))) := by show _ = _; rw [HX.out, if_pos hd0]
                      subst hd0
                      clear HX
                      go_wp2
                      exact ⟨⟨k + 1, 0, by rfl, by rfl, by omega, HB2, trivial⟩, by simp only [intOf]; omega⟩
                    · have HB2 : Hid (chkV f = D) := by show _ = _; rw [CE6.out, HX.out, if_neg hd0]
                      have hd0' : ¬ ((D : Int) = 0) := by omega
                      clear HX
                      go_wp2
                      go_ret
                      exact ⟨by rw [HB2.out]; rfl, HB1.out⟩
                  · have hlt' : ¬ ((k : Int) < (n : Int)) := by omega
                    have hv : Hid (chkV f = 0) := by show _ = _; rw [CE6.out, HBD.out, List.drop_eq_nil_of_le (by have := HN.out; omega)]; rfl
                    go_wp2
                    go_ret
                    exact ⟨by rw [hv.out]; rfl, HB1.out⟩
      · have hv : Hid (chkV f = E) := by show _ = _; rw [CE2.out, if_pos h0]
        have h0' : ¬ ((E : Int) = 0) := by omega
        go_wp2
        go_ret
        exact ⟨by rw [hv.out]; rfl, HB1.out⟩
  · have hv : Hid (chkV f = 23) := by show _ = _; unfold chkV; rw [if_pos hk1]
    have f0 : (fing f)[0]? = some (.int .i64 f.k) := fing_head f 0 (by omega)
    clear q0 q1 q2 q3 q4 q37 hvv hrr hn0 r0 b0 hW0 hv0
    by_cases h1 : f.k < 1
    · clear hk1
      go_enter Tryz.func40, Tryz.ntmps40
      go_wp2_with fail
      go_ret
      exact ⟨by rw [hv.out]; rfl, (Below.refl _ w).alloc (Nat.le_refl _) _⟩
    · have h2 : 4 < f.k := by omega
      clear hk1
      go_enter Tryz.func40, Tryz.ntmps40
      go_wp2_with fail
      go_ret
      exact ⟨by rw [hv.out]; rfl, (Below.refl _ w).alloc (Nat.le_refl _) _⟩
end Go.Proofs.YteajpimonenopaaGreatDoor

/- The document's decimal. -/
namespace Go.Proofs.YteajpimonenopaaGreatDoor
open Go.RowKit Go.Shelf Go.Sort
def cvT (v : Value) : Sem Value := convert 22 9 v
theorem toCvT (v : Value) : convert 22 9 v = cvT v := rfl
/-- A text of one byte. -/
def one (x : Nat) : ByteArray := strOfNums [(x : Int)]
theorem run_one (W : World) (x : Nat) : (cvT (.slice (some ⟨W.heap.size, 0, none⟩) 1 1)).run Tryz.prog (W.alloc (.cells #[.int .u8 (x : Int)] 5)) = .ok (.string (one x)) (W.alloc (.cells #[.int .u8 (x : Int)] 5)) := by
  have hr : (W.alloc (.cells #[.int .u8 (x : Int)] 5)).heap[W.heap.size]? = some (.cells (bs [x]) 5 (0, 0)) := heap_alloc_new _ _
  have hb : YteajpimonenopaaGreatDoor.Byl (.slice (some ⟨W.heap.size, 0, none⟩) [x].length [x].length) [x] (W.alloc (.cells #[.int .u8 (x : Int)] 5)) := byl_row hr (by unfold maxLen; simp)
  exact conv_byl hb 9 Tryz.underlying9
theorem dec_lt : ∀ n : Fin 64, itoaT n.val = if n.val < 10 then one (48 + n.val) else one (48 + n.val / 10) ++ one (48 + n.val % 10) := by decide +kernel
attribute [local go_sem ↓] toCvT
set_option maxRecDepth 100000 in
set_option maxHeartbeats 1000000 in
theorem dec_any (n : Nat) (hn : n < 64) (w : World) :
    Calls Tryz.prog 41 #[.int .i64 (n : Int)] w fun e w' => e = .returned (.string (itoaT n)) ∧ Below w.heap.size w w' := by
  have hd := dec_lt ⟨n, hn⟩
  simp only at hd
  have z1 : ∀ x, ¬ (9223372036854775807 < (one x).size + 0) := fun x => by show ¬ (_ < 1 + 0); omega
  have ea : ∀ x, one x ++ (⟨#[]⟩ : ByteArray) = one x := fun x => by apply ByteArray.ext; simp
  by_cases h10 : n < 10
  · rw [if_pos h10] at hd
    obtain ⟨m, hm⟩ : ∃ m, 48 + n = m := ⟨_, rfl⟩
    rw [hm] at hd
    have HD : Hid (itoaT n = one m) := hd
    have h1 : ¬ ((10 : Int) ≤ (n : Int)) := by omega
    have e1 : IntKind.i64.wrap (48 + (n : Int)) = (m : Int) := by rw [IntKind.wrap_i64]; omega
    have e2 : IntKind.u8.wrap (m : Int) = (m : Int) := wraps_u8 _ (by omega) (by omega)
    have r1 := run_one w m
    clear hd hm
    go_enter Tryz.func41, Tryz.ntmps41
    go_wp2_with fail
    go_loopw [0, 3] (fun nv sv wr => nv = .int .i64 (n : Int) ∧ sv = .string ⟨#[]⟩ ∧ wr = w) (fun _ _ _ => 0)
    case atStart => exact ⟨rfl, rfl, rfl⟩
    case round =>
      obtain ⟨rfl, rfl, rfl⟩ := hrel
      go_wp2_with fail
      go_ret
      exact ⟨by rw [HD.out]; rfl, (Below.refl _ _).alloc (Nat.le_refl _) _⟩
  · rw [if_neg h10] at hd
    obtain ⟨q, hq⟩ : ∃ q, n / 10 = q := ⟨_, rfl⟩
    obtain ⟨r, hr⟩ : ∃ r, 48 + n % 10 = r := ⟨_, rfl⟩
    obtain ⟨m, hm⟩ : ∃ m, 48 + n / 10 = m := ⟨_, rfl⟩
    rw [hm, hr] at hd
    have HD : Hid (itoaT n = one m ++ one r) := hd
    have h1 : (10 : Int) ≤ (n : Int) := by omega
    have h2 : ¬ ((10 : Int) ≤ (q : Int)) := by omega
    have e0 : IntKind.i64.wrap (48 + (n : Int) % 10) = (r : Int) := by rw [IntKind.wrap_i64]; omega
    have e0' : IntKind.i64.wrap (48 + (n : Int).tmod 10) = (r : Int) := by rw [Int.tmod_eq_emod_of_nonneg (by omega)]; exact e0
    have e2 : IntKind.u8.wrap (r : Int) = (r : Int) := wraps_u8 _ (by omega) (by omega)
    have e1 : IntKind.i64.wrap (48 + (q : Int)) = (m : Int) := by rw [IntKind.wrap_i64]; omega
    have e3 : IntKind.u8.wrap (m : Int) = (m : Int) := wraps_u8 _ (by omega) (by omega)
    have e4 : (n : Int) / 10 = (q : Int) := by omega
    have e4' : (n : Int).tdiv 10 = (q : Int) := by rw [Int.tdiv_eq_ediv_of_nonneg (by omega)]; exact e4
    have e5 : IntKind.i64.wrap (q : Int) = (q : Int) := by rw [IntKind.wrap_i64]; omega
    have r1 := run_one w r
    have r2 := run_one (w.alloc (.cells #[.int .u8 (r : Int)] 5)) m
    rw [heap_size_alloc] at r2
    have z2 : ¬ (9223372036854775807 < (one m).size + (one r).size) := by show ¬ (_ < 1 + 1); omega
    clear hd hm hr hq e4
    go_enter Tryz.func41, Tryz.ntmps41
    go_wp2_with fail
    go_loopw [0, 3] (fun nv sv wr => (nv = .int .i64 (n : Int) ∧ sv = .string ⟨#[]⟩ ∧ wr = w) ∨ (nv = .int .i64 (q : Int) ∧ sv = .string (one r) ∧ wr = w.alloc (.cells #[.int .u8 (r : Int)] 5))) (fun nv _ _ => (intOf nv).toNat)
    case atStart => exact .inl ⟨rfl, rfl, rfl⟩
    case round =>
      rcases hrel with ⟨rfl, rfl, rfl⟩ | ⟨rfl, rfl, rfl⟩
      · go_wp2_with fail
        exact ⟨.inr ⟨rfl, rfl, trivial⟩, by simp only [intOf]; omega⟩
      · go_wp2_with fail
        go_ret
        exact ⟨by rw [HD.out]; rfl, ((Below.refl _ _).alloc (Nat.le_refl _) _).alloc (by simp) _⟩
end Go.Proofs.YteajpimonenopaaGreatDoor

/- The document's half. -/
namespace Go.Proofs.YteajpimonenopaaGreatDoor
open Go.RowKit
attribute [local go_sem ↓] toMk
set_option maxRecDepth 100000 in
set_option maxHeartbeats 1000000 in
theorem bit_any (s : List Nat) (hb : Byt s) (k : Nat) (hk : k ≤ 17592186044416) (v : Value) (w : World) (hv : Byl v s w) :
    Calls Tryz.prog 91 #[v, .int .i64 (k : Int)] w fun e w' => e = .returned (.int .i64 ((bitN s k : Nat) : Int)) ∧ w' = w := by
  obtain ⟨o, c, rfl, _, _, ho⟩ := hv.form
  obtain ⟨A, hA⟩ : ∃ A, A = k / 8 := ⟨_, rfl⟩
  obtain ⟨S, hS⟩ : ∃ S, S = k % 8 := ⟨_, rfl⟩
  have hAI : (k : Int) / 8 = (A : Int) := by omega
  have hAT : Int.tdiv (k : Int) 8 = (A : Int) := by rw [Int.tdiv_eq_ediv_of_nonneg (by omega)]; exact hAI
  have hAW : IntKind.i64.wrap (A : Int) = (A : Int) := by rw [IntKind.wrap_i64]; omega
  have hSI : (k : Int) % 8 = (S : Int) := by omega
  have hST : Int.tmod (k : Int) 8 = (S : Int) := by rw [Int.tmod_eq_emod_of_nonneg (by omega)]; exact hSI
  have hS8 : S < 8 := by omega
  have hSW : IntKind.i64.wrap (S : Int) = (S : Int) := by rw [IntKind.wrap_i64]; omega
  have hSU : IntKind.u64.wrap (S : Int) = (S : Int) := by rw [IntKind.wrap_u64]; omega
  by_cases hlt : A < s.length
  · obtain ⟨b1, o1, rfl, hb1, hc1⟩ := ho (by omega)
    obtain ⟨p, hp⟩ : ∃ x, x = s.getD A 0 := ⟨_, rfl⟩
    have hp256 : p < 256 := by rw [hp]; exact getT hb _
    have cp : w.cell? ⟨b1, o1 + A, none⟩ = some (.int .u8 (p : Int)) := by rw [hp]; exact hc1 _ hlt
    have h0 : (0 : Int) ≤ (A : Int) := by omega
    have h1 : (A : Int) < (s.length : Int) := by omega
    have h2 : ¬ ((s.length : Int) ≤ (A : Int)) := by omega
    have hpW : IntKind.i64.wrap (p : Int) = (p : Int) := by rw [IntKind.wrap_i64]; omega
    have hV : bitN s k = p / 2 ^ S % 2 := by unfold bitN; rw [← hA, ← hS, ← hp]
    obtain ⟨P, hP⟩ : ∃ P, P = p / 2 ^ S := ⟨_, rfl⟩
    have hPI : (p : Int) / 2 ^ S = (P : Int) := by rw [hP, pow_int]
    have hP256 : P < 256 := by rw [hP]; exact Nat.lt_of_le_of_lt (Nat.div_le_self _ _) hp256
    have HV : Hid (bitN s k = P % 2) := by show _ = _; rw [hV, hP]
    have hand := i64_and1 P
    clear hV hP hA hS hp hc1 ho hv
    rw [HV.out]
    clear HV
    go_enter Tryz.func91, Tryz.ntmps91
    go_wp2
    go_ret
    exact ⟨rfl, rfl⟩
  · have h1 : (s.length : Int) ≤ (A : Int) := by omega
    have hV : bitN s k = 0 := by unfold bitN; rw [← hA, List.getD, List.getElem?_eq_none (by omega)]; simp
    rw [hV]
    clear hV hA hS ho hv
    go_enter Tryz.func91, Tryz.ntmps91
    go_wp2
    go_ret
    exact ⟨rfl, rfl⟩
set_option maxRecDepth 100000 in
set_option maxRecDepth 100000 in
set_option maxHeartbeats 3200000 in
theorem b32R_any (s : List Nat) (hb : Byt s) (hl : s.length ≤ 1099511627776) (v : Value) (w : World) (hv : Byl v s w) :
    Calls Tryz.prog 74 #[v] w fun e w' => e = .returned (txt (b32L s)) ∧ Below w.heap.size w w' := by
  obtain ⟨o, c, rfl, _, _, ho⟩ := hv.form
  obtain ⟨n, hn⟩ : ∃ n, n = n32 s.length := ⟨_, rfl⟩
  have hn1 : n ≤ 2199023255552 := by rw [hn]; unfold n32; omega
  have hnI : (8 * (s.length : Int) + 4) / 5 = (n : Int) := by rw [hn]; unfold n32; omega
  have hnT : Int.tdiv (8 * (s.length : Int) + 4) 5 = (n : Int) := by rw [Int.tdiv_eq_ediv_of_nonneg (by omega)]; exact hnI
  have hnW : IntKind.i64.wrap (n : Int) = (n : Int) := by rw [IntKind.wrap_i64]; omega
  have hw8 : IntKind.i64.wrap (8 * (s.length : Int)) = 8 * (s.length : Int) := by rw [IntKind.wrap_i64]; omega
  have hw84 : IntKind.i64.wrap (8 * (s.length : Int) + 4) = 8 * (s.length : Int) + 4 := by rw [IntKind.wrap_i64]; omega
  obtain ⟨w0, hmk, hrow0, bel0⟩ := run_mkN w n (by omega)
  have hs0 := (Array.getElem?_eq_some_iff.1 hrow0).1
  have HR0 : Hid (w0.heap[w.heap.size]? = some (.cells (bs (part32 s 0)) 5 (0, 0))) := by rw [part32_zero, ← hn]; exact hrow0
  clear hrow0 ho
  have HN : Hid (n = n32 s.length) := hn
  clear hn
  have HV : Hid (Byl (.slice o s.length c) s w) := hv
  clear hv
  go_enter Tryz.func74, Tryz.ntmps74
  go_wp2_with fail
  go_loopw [5] (fun i wr => ∃ k : Nat, i = .int .i64 (k : Int) ∧ k ≤ n ∧ Hid (wr.heap[w.heap.size]? = some (.cells (bs (part32 s k)) 5 (0, 0))) ∧ Touch w.heap.size w0 wr) (fun i _ => n - (intOf i).toNat)
  case atStart => exact ⟨0, rfl, by omega, HR0, Touch.refl _ _⟩
  case round =>
    obtain ⟨k, rfl, hk, hrow, htc⟩ := hrel
    have hbl : Below w.heap.size w wr := bel0.trans (htc.below (Nat.le_refl _) (by omega))
    have hszr : w.heap.size < wr.heap.size := (Array.getElem?_eq_some_iff.1 hrow.out).1
    by_cases hlt : k < n
    · have hk0 : (0 : Int) ≤ (k : Int) := by omega
      have hk1 : (k : Int) < (n : Int) := by omega
      have hw5 : IntKind.i64.wrap (5 * (k : Int)) = 5 * (k : Int) := by rw [IntKind.wrap_i64]; omega
      go_wp2_with fail
      go_loopw [6, 7] (fun x i wq => ∃ j : Nat, i = .int .i64 (j : Int) ∧ j ≤ 5 ∧ x = .int .i64 ((sum32 s k j : Nat) : Int) ∧ wq = wr) (fun _ i _ => 5 - (intOf i).toNat)
      case atStart => exact ⟨0, rfl, by omega, rfl, rfl⟩
      case round =>
        obtain ⟨j, rfl, hj, rfl, rfl⟩ := hrel
        by_cases hj5 : j < 5
        · have hj0 : (0 : Int) ≤ (j : Int) := by omega
          have hj1 : (j : Int) < 5 := by omega
          have hSU : IntKind.u64.wrap (j : Int) = (j : Int) := by rw [IntKind.wrap_u64]; omega
          have hw6 : IntKind.i64.wrap (5 * (k : Int) + (j : Int)) = 5 * (k : Int) + (j : Int) := by rw [IntKind.wrap_i64]; omega
          obtain ⟨B, hB⟩ : ∃ B, B = bitN s (5 * k + j) := ⟨_, rfl⟩
          obtain ⟨M, hM⟩ : ∃ M, M = sum32 s k j := ⟨_, rfl⟩
          have hB2 : B < 2 := by rw [hB]; exact bitN_lt _ _
          have hMl : M < 2 ^ j := by rw [hM]; exact sum32_lt _ _ _
          have hj16 : (2 : Nat) ^ j ≤ 2 ^ 4 := Nat.pow_le_pow_right (by decide) (by omega)
          have hBj : B * 2 ^ j ≤ 1 * 2 ^ j := Nat.mul_le_mul_right _ (by omega)
          obtain ⟨U, hU⟩ : ∃ U, U = B * 2 ^ j := ⟨_, rfl⟩
          have hUI : (B : Int) * 2 ^ j = (U : Int) := by rw [hU]; simp
          have hU16 : U ≤ 16 := by omega
          have hM16 : M < 16 := by omega
          have hUW : IntKind.i64.wrap (U : Int) = (U : Int) := by rw [IntKind.wrap_i64]; omega
          have hMW : IntKind.i64.wrap ((M : Int) + (U : Int)) = (M : Int) + (U : Int) := by rw [IntKind.wrap_i64]; omega
          have HS : Hid (sum32 s k (j + 1) = M + U) := by show _ = _; rw [hM, hU, hB]; rfl
          have C : Hid (Calls Tryz.prog 91 #[.slice o s.length c, .int .i64 (5 * (k : Int) + (j : Int))] wr fun e w' => e = .returned (.int .i64 (B : Int)) ∧ w' = wr) := by
            have := bit_any s hb (5 * k + j) (by omega) _ wr (HV.out.below hbl)
            rw [← hB, show ((5 * k + j : Nat) : Int) = 5 * (k : Int) + (j : Int) by omega] at this
            exact this
          rw [← hM]
          clear hU hB hM hBj hMl hj16
          go_wp2_with (go_at_call 91; refine C.out.mono ?_; rintro e w' ⟨rfl, rfl⟩)
          go_roundw
          case rel => exact ⟨j + 1, by go_num, by omega, by rw [HS.out]; go_num, trivial⟩
          case measure => simp [intOf]; omega
        · have hj1 : ¬ ((j : Int) < 5) := by omega
          have hje : j = 5 := by omega
          subst hje
          rw [sum32_all s hb k]
          obtain ⟨D, hD⟩ : ∃ D, D = v32 s k := ⟨_, rfl⟩
          rw [← hD]
          have hD32 : D < 32 := by rw [hD]; exact d32_lt _ _ _
          have hD0 : (0 : Int) ≤ (D : Int) := by omega
          have hD1 : (D : Int) < 32 := by omega
          obtain ⟨J, hJ⟩ : ∃ J, J = n - 1 - k := ⟨_, rfl⟩
          have hJ1 : IntKind.i64.wrap ((n : Int) - 1) = (n : Int) - 1 := by rw [IntKind.wrap_i64]; omega
          have hJ2 : IntKind.i64.wrap ((n : Int) - 1 - (k : Int)) = (J : Int) := by rw [IntKind.wrap_i64]; omega
          have hJ3 : (n : Int) - 1 - (k : Int) = (J : Int) := by omega
          have hJ0 : (0 : Int) ≤ (J : Int) := by omega
          have hJ4 : (J : Int) < (n : Int) := by omega
          have fz : wr.frozen? ⟨w.heap.size, J, none⟩ = false := frozen_of_row wr _ _ _ _ hrow.out
          have cJ : wr.cell? ⟨w.heap.size, J, none⟩ = some (.int .u8 (((part32 s k).getD J 0 : Nat) : Int)) := by rw [cell_of_row wr _ _ _ _ _ hrow.out, bs_get _ _ (by rw [part32_len, ← HN.out]; omega)]
          have hr2 : Hid ((wr.setCell ⟨w.heap.size, J, none⟩ (.int .u8 ((g32 D : Nat) : Int))).heap[w.heap.size]? = some (.cells (bs (part32 s (k + 1))) 5 (0, 0))) := by
            refine (heap_setCell_same _ _ _ _ _ _ hrow.out).trans ?_
            rw [bs_set, hJ, hD, HN.out, part32_set s k (by rw [← HN.out]; exact hlt)]
          have htc2 : Touch w.heap.size w0 (wr.setCell ⟨w.heap.size, J, none⟩ (.int .u8 ((g32 D : Nat) : Int))) := htc.setCell _
          have e := dig32_nat D (by show _ < 32; omega)
          have hr3 : Hid ((wr.setCell ⟨w.heap.size, J, none⟩ (.int .u8 (((dig32A[D]'(by show _ < 32; omega)).toNat : Nat) : Int))).heap[w.heap.size]? = some (.cells (bs (part32 s (k + 1))) 5 (0, 0))) := by rw [e]; exact hr2
          have htc3 : Touch w.heap.size w0 (wr.setCell ⟨w.heap.size, J, none⟩ (.int .u8 (((dig32A[D]'(by show _ < 32; omega)).toNat : Nat) : Int))) := htc.setCell _
          clear hJ hD hr2 htc2 e
          go_wp2
          go_roundw
          case rel => exact ⟨k + 1, by go_num, by omega, hr3, htc3⟩
          case measure => simp [intOf]; omega
    · have hk1 : ¬ ((k : Int) < (n : Int)) := by omega
      have hke : k = n := by omega
      subst hke
      have hcv : (convert 22 9 (.slice (some ⟨w.heap.size, 0, none⟩) k k)).run Tryz.prog wr = .ok (txt (b32L s)) wr := by
        have hr := hrow.out
        rw [HN.out, part32_all] at hr
        have := conv_byl (byl_row hr (by rw [b32L_len, ← HN.out]; unfold maxLen; omega)) 9 Tryz.underlying9
        rw [b32L_len, ← HN.out] at this
        exact this
      go_wp2
      go_ret
      exact ⟨rfl, hbl⟩
end Go.Proofs.YteajpimonenopaaGreatDoor

/- The document's half. -/
namespace Go.Proofs.YteajpimonenopaaGreatDoor
open Go.RowKit
set_option maxRecDepth 100000 in
set_option maxHeartbeats 1000000 in
theorem hashR_any (h : List Nat) (hb : Byt h) (hl : h.length = 20) (w : World) :
    Calls Tryz.prog 66 #[.agg (bs h)] w fun e w' => e = .returned (.string (str (b32L h))) ∧ Below w.heap.size w w' := by
  have bel : Below w.heap.size w (w.alloc (.cells (bs h) 28)) := (Below.refl _ w).alloc (Nat.le_refl _) _
  have hby : Byl (.slice (some ⟨w.heap.size, 0, none⟩) 20 20) h (w.alloc (.cells (bs h) 28)) := by
    have := byl_row (w := w.alloc (.cells (bs h) 28)) (heap_alloc_new w (.cells (bs h) 28)) (by unfold maxLen; omega)
    rw [hl] at this
    exact this
  have C : Hid (Calls Tryz.prog 74 #[.slice (some ⟨w.heap.size, 0, none⟩) 20 20] (w.alloc (.cells (bs h) 28)) fun e w' => e = .returned (.string (str (b32L h))) ∧ Below (w.heap.size + 1) (w.alloc (.cells (bs h) 28)) w') := by
    have := b32R_any h hb (by omega) _ _ hby
    rw [heap_size_alloc] at this
    exact this
  clear hby
  go_enter Tryz.func66, Tryz.ntmps66
  go_wp2_with fail
  refine C.out.mono ?_
  rintro e w1 ⟨rfl, b1⟩
  have hb1 : Below w.heap.size w w1 := bel.trans (b1.mono (by omega))
  go_wp2
  go_ret
  exact ⟨rfl, hb1⟩
attribute [local go_sem ↓] to25l to23l
set_option maxRecDepth 100000 in
set_option maxHeartbeats 1000000 in
theorem baseR_any (h : List Nat) (hb : Byt h) (hl : h.length = 20) (s : ByteArray) (w : World) :
    Calls Tryz.prog 57 #[.agg (lab h s)] w fun e w' => e = .returned (baseV h s) ∧ Below w.heap.size w w' := by
  obtain ⟨W1, hW1⟩ : ∃ W, W = w.alloc (.cells (lab h s) 30) := ⟨_, rfl⟩
  have bel : Hid (Below w.heap.size w W1) := by rw [hW1]; exact (Below.refl _ w).alloc (Nat.le_refl _) _
  have hrow : W1.heap[w.heap.size]? = some (.cells (lab h s) 30 (0, 0)) := by rw [hW1]; exact heap_alloc_new _ _
  have hz : Hid (W1.heap.size = w.heap.size + 1) := by show _ = _; rw [hW1]; simp
  have cn : W1.cell? ⟨w.heap.size, 20, none⟩ = some (.string s) := by rw [cell_of_row _ _ _ _ _ _ hrow, lab_name h s hl]
  have HR : Hid (W1.heap[w.heap.size]? = some (.cells (lab h s) 30 (0, 0))) := hrow
  obtain ⟨E, hE⟩ : ∃ E, E = okN s := ⟨_, rfl⟩
  obtain ⟨F, hF⟩ : ∃ F, F = (checkN s).2 := ⟨_, rfl⟩
  have C : Hid (∀ W, Calls Tryz.prog 25 #[.string s] W fun e w' => e = .returned (.tuple #[.int .i64 (E : Int), .int .i64 (F : Int)]) ∧ w' = W) := by
    intro W
    have := ref_any s W
    rw [hE, hF]
    exact this
  have HE : Hid (E = okN s) := hE
  have ld := run_loadR23 W1 w.heap.size h s hrow hl
  have HW : Hid (W1 = w.alloc (.cells (lab h s) 30)) := hW1
  rw [hW1] at cn ld
  clear hrow hE hF hW1
  go_enter Tryz.func57, Tryz.ntmps57
  go_wp2_with fail
  refine (C.out _).mono ?_
  rintro e W2 ⟨rfl, rfl⟩
  by_cases h0 : E = 0
  · have hv : Hid (baseV h s = two (baseS h s) 0) := by show _ = _; unfold baseV; rw [if_pos (by rw [← HE.out]; exact h0)]
    have hs : s.size ≤ 211 := okN_size s (by rw [← HE.out]; exact h0)
    have z0 : (str (b32L h)).size = 32 := by rw [str_size, b32L_len, hl]; decide
    have z1 : ¬ (9223372036854775807 < (str (b32L h)).size + 1) := by omega
    have z2 : ¬ (9223372036854775807 < (str (b32L h) ++ (⟨#[45]⟩ : ByteArray)).size + s.size) := by
      rw [app_size, z0]
      show ¬ (_ < 32 + 1 + s.size)
      omega
    have z3 : ¬ (9223372036854775807 < (str (b32L h)).size + 1 + s.size) := by omega
    clear z0
    subst h0
    go_wp2_with fail
    refine (hashR_any h hb hl _).mono ?_
    rintro e W3 ⟨rfl, b3⟩
    rw [← HW.out] at b3
    have bel3 : Below w.heap.size w W3 := bel.out.trans (b3.mono (by have := hz.out; omega))
    have cn3 : W3.cell? ⟨w.heap.size, 20, none⟩ = some (.string s) := by rw [cell_of_row _ _ _ _ _ _ ((b3.block _ (by have := hz.out; omega)).trans HR.out), lab_name h s hl]
    go_wp2
    go_ret2
    exact ⟨by rw [hv.out]; rfl, bel3⟩
  · have hv : Hid (baseV h s = two ⟨#[]⟩ E) := by show _ = _; unfold baseV; rw [if_neg (by rw [← HE.out]; exact h0), HE.out]
    have h0' : ¬ ((E : Int) = 0) := by omega
    go_wp2
    go_ret2
    exact ⟨by rw [hv.out]; rfl, by rw [← HW.out]; exact bel.out⟩
set_option maxRecDepth 100000 in
set_option maxHeartbeats 1000000 in
theorem printR_any (h : List Nat) (hb : Byt h) (hl : h.length = 20) (s : ByteArray) (w : World) :
    Calls Tryz.prog 43 #[.agg (lab h s)] w fun e w' => e = .returned (printV h s) ∧ Below w.heap.size w w' := by
  have bel : Hid (Below w.heap.size w (w.alloc (.cells (lab h s) 30))) := (Below.refl _ w).alloc (Nat.le_refl _) _
  have ld := run_loadR25 (w.alloc (.cells (lab h s) 30)) w.heap.size h s (heap_alloc_new _ _) hl
  have C := baseR_any h hb hl s (w.alloc (.cells (lab h s) 30))
  by_cases h0 : okN s = 0
  · have hv : Hid (printV h s = two (store ++ baseS h s) 0) := by show _ = _; unfold printV; rw [if_pos h0]
    have hs : s.size ≤ 211 := okN_size s h0
    have z1 : ¬ (9223372036854775807 < 13 + (baseS h s).size) := by rw [baseS_size h s hl]; omega
    have C' : Hid (Calls Tryz.prog 57 #[.agg (lab h s)] (w.alloc (.cells (lab h s) 30)) fun e w' => e = .returned (.tuple #[.string (baseS h s), .int .i64 0]) ∧ Below (w.alloc (.cells (lab h s) 30)).heap.size (w.alloc (.cells (lab h s) 30)) w') := by
      unfold baseV at C
      rw [if_pos h0] at C
      exact C
    clear C
    go_enter Tryz.func43, Tryz.ntmps43
    go_wp2_with fail
    refine C'.out.mono ?_
    rintro e W3 ⟨rfl, b3⟩
    have bel3 : Below w.heap.size w W3 := bel.out.trans (b3.mono (by simp))
    go_wp2
    go_ret2
    exact ⟨by rw [hv.out]; rfl, bel3⟩
  · obtain ⟨E, hE⟩ : ∃ E, E = okN s := ⟨_, rfl⟩
    have hv : Hid (printV h s = two ⟨#[]⟩ E) := by show _ = _; unfold printV; rw [if_neg h0, hE]
    have h0' : ¬ ((E : Int) = 0) := by omega
    have C' : Hid (Calls Tryz.prog 57 #[.agg (lab h s)] (w.alloc (.cells (lab h s) 30)) fun e w' => e = .returned (.tuple #[.string ⟨#[]⟩, .int .i64 (E : Int)]) ∧ Below (w.alloc (.cells (lab h s) 30)).heap.size (w.alloc (.cells (lab h s) 30)) w') := by
      unfold baseV at C
      rw [if_neg h0, ← hE] at C
      exact C
    clear C hE
    go_enter Tryz.func43, Tryz.ntmps43
    go_wp2_with fail
    refine C'.out.mono ?_
    rintro e W3 ⟨rfl, b3⟩
    have bel3 : Below w.heap.size w W3 := bel.out.trans (b3.mono (by simp))
    go_wp2
    go_ret2
    exact ⟨by rw [hv.out]; rfl, bel3⟩
end Go.Proofs.YteajpimonenopaaGreatDoor

/- The document's half. -/
namespace Go.Proofs.YteajpimonenopaaGreatDoor
open Go.RowKit
set_option maxRecDepth 100000 in
set_option maxHeartbeats 3200000 in
theorem hexR_any (s : List Nat) (hb : Byt s) (hl : s.length ≤ 1099511627776) (v : Value) (w : World) (hv : Byl v s w) :
    Calls Tryz.prog 23 #[v] w fun e w' => e = .returned (txt (hexL s)) ∧ Below w.heap.size w w' := by
  obtain ⟨i0, hi0, hz0, hz1, hz2⟩ := info_parts info5
  obtain ⟨o, c, rfl, _, _, ho⟩ := hv.form
  go_enter Tryz.func23, Tryz.ntmps23
  go_wp2_with fail
  go_loopw [3, 4] (fun ov i wr => ∃ k : Nat, i = .int .i64 (k : Int) ∧ k ≤ s.length ∧ Hid (wr.ownsRow w.heap.size 5 1 ov (2 * k) (bs (hexL (s.take k))).toList) ∧ Below w.heap.size w wr) (fun _ i _ => s.length - (intOf i).toNat)
  case atStart =>
    refine ⟨0, rfl, by omega, World.ownsRow_nil _ _ _ _, Below.refl _ w⟩
  case round =>
    obtain ⟨k, rfl, hk, hown, hbl⟩ := hrel
    by_cases hlt : k < s.length
    · obtain ⟨b1, o1, rfl, hb1, hc1⟩ := ho (by omega)
      obtain ⟨x, hx⟩ : ∃ x, x = s.getD k 0 := ⟨_, rfl⟩
      have hx256 : x < 256 := by rw [hx]; exact getT hb _
      have cx : wr.cell? ⟨b1, o1 + k, none⟩ = some (.int .u8 (x : Int)) := by rw [hx]; exact (World.cell?_of_block (w := w) (hbl.block b1 hb1)).trans (hc1 k hlt)
      have hk0 : (0 : Int) ≤ (k : Int) := by omega
      have hk1 : (k : Int) < (s.length : Int) := by omega
      have HX : Hid (x = s.getD k 0) := hx
      have hbz := hbl.size
      clear hx
      have hA0 : (0 : Int) ≤ (x : Int) / 16 := by omega
      have hA1 : (x : Int) / 16 < 16 := by omega
      have hA2 : (x : Int) / 16 % 256 < 16 := by omega
      have hA3 : (0 : Int) ≤ (x : Int) / 16 % 256 := by omega
      have hB0 : (0 : Int) ≤ (x : Int) % 16 := by omega
      have hB1 : (x : Int) % 16 < 16 := by omega
      have hB2 : (x : Int) % 16 % 256 < 16 := by omega
      have hB3 : (0 : Int) ≤ (x : Int) % 16 % 256 := by omega
      have hB4 : Int.tmod (x : Int) 16 = (x : Int) % 16 := by rw [Int.tmod_eq_emod_of_nonneg (by omega)]
      have hW : IntKind.u8.wrap ((x : Int) / 16) = (x : Int) / 16 := wraps_u8 _ (by omega) (by omega)
      go_wp2_with fail
      have hmx : 2 * k + 2 ≤ maxLen := by unfold maxLen; omega
      have hby : (2 * k + 2) * 1 ≤ 140737488355328 := by omega
      have hne : u3.ownBlock ≠ some b1 := by
        intro h
        have := (hown.out.lt _ h).1
        omega
      go_region_held3 (fun w' => w'.cell? ⟨b1, o1 + k, none⟩ = some (.int .u8 (x : Int)))
        (first
          | go_keep
          | (rw [hgrow.cell_far _ (by simp; omega) (Ne.symm hne)]; assumption))
        ((refine step_append_lies _ (by rfl) _ _ _ (by rfl) w.heap.size 5 i0 _ 1 1 Tryz.underlying22 hi0 hz0 hz1 hz2 rfl (by omega) u3 (2 * k) _ (by rfl) ((hown.out.alloc _).drew)
            ⟨wr.heap.size, 0, none⟩ 2 2 _ (by rfl) (by rfl) (World.news_of_block (t := 5) (fr := (0, 0)) (heap_alloc_new wr _)) (by simp [Value.oneCell'])
            (by omega) hmx hby (by simp; omega) (wr.heap.size + 1) (by simp) ?_; intro gg cap w1 hown1 hgrow hat hlt2))
      all_goals
        have e1 := dig_at ((x : Int) / 16) (x / 16) (by omega) (by show _ < 16; omega)
        have e2 := dig_at ((x : Int) % 16) (x % 16) (by omega) (by show _ < 16; omega)
        have hnl : (bs (hexL (s.take (k + 1)))).toList = (bs (hexL (s.take k))).toList ++ #[Value.int IntKind.u8 ((digA[((x : Int) / 16).toNat]'(by show _ < 16; omega)).toNat : Int), Value.int IntKind.u8 ((digA[((x : Int) % 16).toNat]'(by show _ < 16; omega)).toNat : Int)].toList := by
          rw [e1, e2, hexL_take s k (by omega), ← HX.out]
          simp [bs]
        have hownF : Hid (w1.ownsRow w.heap.size 5 1 (Value.slice (some ⟨gg, 0, none⟩) (2 * k + 2) cap) (2 * (k + 1)) (bs (hexL (s.take (k + 1)))).toList) := by
          show World.ownsRow _ _ _ _ _ _ _
          rw [hnl]
          exact hown1
        have hbl1 : Below w.heap.size w w1 := below_grown ((hbl.alloc (by omega) _).drew) hgrow (by simp; omega) (fun g hg => by have := (hown.out.lt g hg).1; omega)
        clear hown1 hgrow hnl e1 e2 hat
        go_wp2
        go_roundw
        case rel => exact ⟨k + 1, by go_num, by omega, hownF, hbl1⟩
        case measure => simp [intOf]; omega
    · have hk1 : ¬ ((k : Int) < (s.length : Int)) := by omega
      have hke : k = s.length := by omega
      subst hke
      have ho' := hown.out
      rw [List.take_of_length_le (Nat.le_refl _)] at ho'
      have hcv := conv_own ho'
      clear ho'
      go_wp2
      go_ret
      exact ⟨rfl, hbl⟩
attribute [local go_sem ↓] toMk
end Go.Proofs.YteajpimonenopaaGreatDoor
