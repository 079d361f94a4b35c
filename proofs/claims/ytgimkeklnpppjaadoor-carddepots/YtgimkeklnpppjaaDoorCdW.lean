/- PrintSign, the code's and the document's; decimal. -/
import Derived.Test.YtgimkeklnpppjaaDoorCdU
namespace Go.Proofs.YtgimkeklnpppjaaDoor
open Go.RowKit Go.Shelf
def okS (st : ByteArray) (pr : Int) : Prop := st.toList = [47, 103, 114, 97, 102, 116, 47, 115, 116, 111, 114, 101] ∧ 0 ≤ pr ∧ pr ≤ 1000000
/-- What both PrintSign answer. -/
noncomputable def PsV (st : ByteArray) (m : Bool) (pr : Int) : Value := open Classical in if okS st pr then .tuple #[.string (psT st m pr.toNat), .int .i64 0] else .tuple #[.string ⟨#[]⟩, .int .i64 101]
theorem dir_size {st : ByteArray} (h : st.toList = [47, 103, 114, 97, 102, 116, 47, 115, 116, 111, 114, 101]) : st.size = 12 := by
  have : st.toList.length = st.size := by rw [ByteArray.toList_eq]; exact Array.length_toList
  rw [h] at this
  exact this.symm
attribute [local go_sem ↓] toLdS
set_option maxRecDepth 100000 in
set_option maxHeartbeats 3200000 in
theorem PrintSign_any (st : ByteArray) (m : Bool) (pr : Int) (S : Sen) (w : World) (hw : Wd S w) :
    Calls Tryd.prog 4 #[.agg (sgA st m pr)] w fun e w' => e = .returned (PsV st m pr) ∧ Below w.heap.size w w' := by
  obtain ⟨W0, hW0⟩ : ∃ W0, w.alloc (.cells (sgA st m pr) 23) = W0 := ⟨_, rfl⟩
  have b0 : Below w.heap.size w W0 := by rw [← hW0]; exact (Below.refl _ w).alloc (Nat.le_refl _) _
  have r0 : W0.heap[w.heap.size]? = some (.cells (sgA st m pr) 23 (0, 0)) := by rw [← hW0]; exact heap_alloc_new _ _
  obtain ⟨q0, q1, q2⟩ := sgA_cells r0
  rw [← hW0] at q0 q1 q2
  have ld := ld_S W0 w.heap.size (sgA st m pr) rfl r0
  rw [← hW0] at ld
  have HB : Hid (Below w.heap.size w W0) := b0
  have HW0 : Hid _ := hW0
  by_cases hd : st.toList = [47, 103, 114, 97, 102, 116, 47, 115, 116, 111, 114, 101]
  · have hd' : (st.toList == [47, 103, 114, 97, 102, 116, 47, 115, 116, 111, 114, 101]) = true := by rw [hd]; rfl
    by_cases h0 : pr < 0
    · have HV : Hid (PsV st m pr = .tuple #[.string ⟨#[]⟩, .int .i64 101]) := by show _ = _; unfold PsV; rw [if_neg (fun h => by have := h.2.1; omega)]
      clear hd hW0 b0 r0 hw
      unfold sgA at *
      go_enter Tryd.func4, Tryd.ntmps4
      go_wp2
      go_ret2
      rw [HW0.out]
      exact ⟨by rw [HV.out]; rfl, HB.out⟩
    by_cases h1 : 1000000 < pr
    · have HV : Hid (PsV st m pr = .tuple #[.string ⟨#[]⟩, .int .i64 101]) := by show _ = _; unfold PsV; rw [if_neg (fun h => by have := h.2.2; omega)]
      clear hd hW0 b0 r0 hw
      unfold sgA at *
      go_enter Tryd.func4, Tryd.ntmps4
      go_wp2
      go_ret2
      rw [HW0.out]
      exact ⟨by rw [HV.out]; rfl, HB.out⟩
    obtain ⟨n, rfl⟩ : ∃ n : Nat, pr = (n : Int) := ⟨pr.toNat, by omega⟩
    have HV : Hid (PsV st m (n : Int) = .tuple #[.string (psT st m n), .int .i64 0]) := by show _ = _; unfold PsV; rw [if_pos ⟨hd, by omega, by omega⟩]; simp
    have CP : Hid _ := printSign_any st (by rw [dir_size hd]; omega) m n (by omega) S W0 (hw.below b0)
    clear hd hW0 b0 r0 hw
    unfold sgA at *
    go_enter Tryd.func4, Tryd.ntmps4
    go_wp2_with fail
    rw [HW0.out]
    refine Calls.mono CP.out ?_
    rintro e W1 ⟨rfl, b1⟩
    have HB1 : Hid (Below w.heap.size w W1) := HB.out.trans (b1.mono HB.out.size)
    clear CP b1 q0 q1 q2 ld
    go_wp2
    go_ret2
    exact ⟨by rw [HV.out]; rfl, HB1.out⟩
  · have hd' : (st.toList == [47, 103, 114, 97, 102, 116, 47, 115, 116, 111, 114, 101]) = false := beq_off hd
    have HV : Hid (PsV st m pr = .tuple #[.string ⟨#[]⟩, .int .i64 101]) := by show _ = _; unfold PsV; rw [if_neg (fun h => hd h.1)]
    clear hd hW0 b0 r0 hw
    unfold sgA at *
    go_enter Tryd.func4, Tryd.ntmps4
    go_wp2
    go_ret2
    rw [HW0.out]
    exact ⟨by rw [HV.out]; rfl, HB.out⟩
def tenD : ByteArray := ⟨#[48, 49, 50, 51, 52, 53, 54, 55, 56, 57]⟩
theorem ten_at : ∀ d : Fin 10, tenD.extract d.val (d.val + 1) = ⟨#[UInt8.ofNat (48 + d.val)]⟩ := by decide +kernel
theorem decS_lt {n : Nat} (h : n < 10) : decS n = ⟨#[UInt8.ofNat (48 + n)]⟩ := by unfold decS; rw [Lib.decDigits, dif_pos h]
theorem decS_ge {n : Nat} (h : ¬ n < 10) : decS n = decS (n / 10) ++ ⟨#[UInt8.ofNat (48 + n % 10)]⟩ := by
  unfold decS
  rw [Lib.decDigits, dif_neg h]
  apply ByteArray.ext
  rw [ByteArray.data_append]
  apply Array.ext'
  simp
set_option maxRecDepth 100000 in
set_option maxHeartbeats 3200000 in
theorem decimal_any (n : Nat) (hn : n ≤ 1000000) (w : World) :
    Calls Tryd.prog 9 #[.int .i64 (n : Int)] w fun e w' => e = .returned (.string (decS n)) ∧ w' = w := by
  obtain ⟨D, hD⟩ : ∃ D, D = decS n := ⟨_, rfl⟩
  have hDz : D.size ≤ 7 := by rw [hD]; exact decS_size n hn
  have HD : Hid (D = decS n ∧ D.size ≤ 7) := ⟨hD, hDz⟩
  rw [← hD]
  clear hD hDz
  go_enter Tryd.func9, Tryd.ntmps9
  go_wp2_with fail
  go_loopw [0, 3] (fun nv sv wr => ∃ (k : Nat) (t : ByteArray), nv = .int .i64 (k : Int) ∧ sv = .string t ∧ k ≤ 1000000 ∧ Hid (decS k ++ t = D) ∧ wr = w) (fun nv _ _ => (intOf nv).toNat)
  case atStart => exact ⟨n, ⟨#[]⟩, rfl, rfl, hn, (by show _ = _; rw [HD.out.1]; apply ByteArray.ext; simp), rfl⟩
  case round =>
    obtain ⟨k, t, rfl, rfl, hk, HA, rfl⟩ := hrel
    have htz : t.size ≤ 7 := by
      have h1 := HD.out.2
      rw [← HA.out, ByteArray.size_append] at h1
      omega
    by_cases h9 : 9 < k
    · have h9' : (9 : Int) < (k : Int) := by omega
      obtain ⟨d, hd⟩ : ∃ d, d = k % 10 := ⟨_, rfl⟩
      obtain ⟨q, hq⟩ : ∃ q, q = k / 10 := ⟨_, rfl⟩
      have hd10 : d < 10 := by omega
      have e1 : (k : Int).tmod 10 = (d : Int) := by rw [Int.tmod_eq_emod_of_nonneg (by omega)]; omega
      have e1' : (k : Int) % 10 = (d : Int) := by omega
      have e2 : IntKind.i64.wrap ((d : Int) + 1) = (d : Int) + 1 := by rw [IntKind.wrap_i64]; omega
      have e2' : ((d : Int) + 1).toNat = d + 1 := by omega
      have e3 : (k : Int).tdiv 10 = (q : Int) := by rw [Int.tdiv_eq_ediv_of_nonneg (by omega)]; omega
      have e3' : (k : Int) / 10 = (q : Int) := by omega
      have e4 : IntKind.i64.wrap (q : Int) = (q : Int) := by rw [IntKind.wrap_i64]; omega
      have e5 : IntKind.i64.wrap (d : Int) = (d : Int) := by rw [IntKind.wrap_i64]; omega
      have i1 : (0 : Int) ≤ (d : Int) := by omega
      have i2 : (d : Int) + 1 ≤ 10 := by omega
      have i3 : (0 : Int) ≤ (d : Int) + 1 := by omega
      have i4 : (d : Int) ≤ (d : Int) + 1 := by omega
      obtain ⟨o, ho⟩ : ∃ o : ByteArray, o = ⟨#[UInt8.ofNat (48 + d)]⟩ := ⟨_, rfl⟩
      have hex : (⟨#[48, 49, 50, 51, 52, 53, 54, 55, 56, 57]⟩ : ByteArray).extract d (d + 1) = o := by rw [ho]; exact ten_at ⟨d, hd10⟩
      have hoz : o.size = 1 := by rw [ho]; rfl
      have z1 : ¬ (9223372036854775807 < o.size + t.size) := by omega
      have HA2 : Hid (decS q ++ (o ++ t) = D) := by
        show _ = _
        rw [← HA.out, decS_ge (show ¬ k < 10 by omega), ← hq, ← hd, ← ho, ByteArray.append_assoc]
      have HQ : Hid (q < k ∧ q ≤ 1000000) := ⟨by omega, by omega⟩
      clear hd hq hd10 ho HA htz
      go_wp2_with fail
      go_roundw
      case rel => exact ⟨q, o ++ t, rfl, rfl, HQ.out.2, HA2, trivial⟩
      case measure => have := HQ.out.1; simp [intOf]; omega
    · have h9' : ¬ ((9 : Int) < (k : Int)) := by omega
      have e2 : IntKind.i64.wrap ((k : Int) + 1) = (k : Int) + 1 := by rw [IntKind.wrap_i64]; omega
      have e2' : ((k : Int) + 1).toNat = k + 1 := by omega
      have i1 : (0 : Int) ≤ (k : Int) := by omega
      have i2 : (k : Int) + 1 ≤ 10 := by omega
      have i3 : (0 : Int) ≤ (k : Int) + 1 := by omega
      have i4 : (k : Int) ≤ (k : Int) + 1 := by omega
      obtain ⟨o, ho⟩ : ∃ o : ByteArray, o = ⟨#[UInt8.ofNat (48 + k)]⟩ := ⟨_, rfl⟩
      have hex : (⟨#[48, 49, 50, 51, 52, 53, 54, 55, 56, 57]⟩ : ByteArray).extract k (k + 1) = o := by rw [ho]; exact ten_at ⟨k, by omega⟩
      have hoz : o.size = 1 := by rw [ho]; rfl
      have z1 : ¬ (9223372036854775807 < o.size + t.size) := by omega
      have HA2 : Hid (o ++ t = D) := by
        show _ = _
        rw [← HA.out, decS_lt (show k < 10 by omega), ← ho]
      clear ho HA htz h9
      go_wp2_with fail
      go_ret
      exact ⟨by rw [← HA2.out]; rfl, rfl⟩
end Go.Proofs.YtgimkeklnpppjaaDoor
