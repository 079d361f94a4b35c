/- DigestBack's walk. -/
import Derived.Test.YtkppejaigodgiabDoorBkM
namespace Go.Proofs.YtkppejaigodgiabDoor
open Go.RowKit
/-- A digit by its number, kept shut. -/
def ix32 (v : Value) : Sem Value := Instr.index 9 (.string dig32A) v
theorem toIx32 (v : Value) : Instr.index 9 (.string ⟨#[48, 49, 50, 51, 52, 53, 54, 55, 56, 57, 97, 98, 99, 100, 102, 103, 104, 105, 106, 107, 108, 109, 110, 112, 113, 114, 115, 118, 119, 120, 121, 122]⟩) v = ix32 v := rfl
theorem run_ix32 (w : World) (D : Nat) (h : D < 32) : (ix32 (.int .u8 (D : Int))).run Tryd.prog w = .ok (.int .u8 ((g32 D : Nat) : Int)) w := by
  have h64 : D < dig32A.size := h
  have e := dig32_nat D h64
  unfold ix32
  simp [Instr.index, asIntOf, Sem.run_bind, run_underlying Tryd.underlying9, h64, e]
theorem u8_and31 (a : Nat) (h : a < 256) : bits BinOp.and IntKind.u8 (a : Int) 31 = ((a % 32 : Nat) : Int) := by
  rw [show (31 : Int) = ((31 : Nat) : Int) from rfl, u8_and_nat a 31 h (by decide), Nat.and_two_pow_sub_one_eq_mod a 5]
theorem succ_mod {N κ : Nat} (h : N % 32 = κ) (h1 : ¬ κ = 31) : (N + 1) % 32 = κ + 1 := by omega
theorem lt_32 {κ : Nat} (h : κ < 32) (h1 : ¬ κ = 31) : κ + 1 < 32 := by omega
theorem Hid.mk' {p : Prop} (h : p) : Hid p := h
attribute [local go_sem ↓] toApp toIx32
set_option maxRecDepth 100000 in
set_option maxHeartbeats 6400000 in
theorem back_any (d : List Nat) (hdb : Byt d) (hdl : d.length ≤ 140737488351232) (v : Value) (w : World) (ht : Tx w) (hv : Byl v d w) :
    Calls Tryd.prog 4 #[v] w fun e w' => e = .returned (.bool true) ∧ Below w.heap.size w w' := by
  have hvl : Hid (∀ g, v.ownBlock = some g → g < w.heap.size) := fun g hg => byl_lt hv g hg
  have h2s := ht.sz
  have S0 : Hid (Bk v d w w) := ⟨Below.refl _ w, ht, hv⟩
  obtain ⟨o, c, rfl, hc1, hc2, ho⟩ := hv.form
  obtain ⟨H, hH⟩ : ∃ H, H = str (hexL d) := ⟨_, rfl⟩
  obtain ⟨B, hB⟩ : ∃ B, B = str (b32L d) := ⟨_, rfl⟩
  obtain ⟨C, hC⟩ : ∃ C, C = str (b64L d) := ⟨_, rfl⟩
  have hHs : (H.size : Int) = 2 * (d.length : Int) := by rw [hH, str_size, hexL_len]; omega
  have hBs : B.size = n32 d.length := by rw [hB, str_size, b32L_len]
  have hBT : Int.tdiv (8 * (d.length : Int) + 4) 5 = (B.size : Int) := by rw [Int.tdiv_eq_ediv_of_nonneg (by omega), hBs]; unfold n32; omega
  obtain ⟨m, hm⟩ : ∃ m, m = (d.length + 2) / 3 := ⟨_, rfl⟩
  have hmT : Int.tdiv ((d.length : Int) + 2) 3 = (m : Int) := by rw [Int.tdiv_eq_ediv_of_nonneg (by omega)]; omega
  have hCs : (m : Int) * 4 = (C.size : Int) := by rw [hC, str_size, b64L_len _ d (Nat.le_refl _)]; omega
  have hw2 : IntKind.i64.wrap (2 * (d.length : Int)) = 2 * (d.length : Int) := by rw [IntKind.wrap_i64]; omega
  have hw8 : IntKind.i64.wrap (8 * (d.length : Int)) = 8 * (d.length : Int) := by rw [IntKind.wrap_i64]; omega
  have hw84 : IntKind.i64.wrap (8 * (d.length : Int) + 4) = 8 * (d.length : Int) + 4 := by rw [IntKind.wrap_i64]; omega
  have hwB : IntKind.i64.wrap (B.size : Int) = (B.size : Int) := by rw [IntKind.wrap_i64]; rw [hBs]; unfold n32; omega
  have hwn2 : IntKind.i64.wrap ((d.length : Int) + 2) = (d.length : Int) + 2 := by rw [IntKind.wrap_i64]; omega
  have hwm : IntKind.i64.wrap (m : Int) = (m : Int) := by rw [IntKind.wrap_i64]; omega
  have hwC : IntKind.i64.wrap (C.size : Int) = (C.size : Int) := by rw [IntKind.wrap_i64]; omega
  have CH : Hid (∀ W, Bk (.slice o d.length c) d w W → Calls Tryd.prog 10 #[.slice o d.length c] W fun e w' => e = .returned (.string H) ∧ Below W.heap.size W w') := fun W h => by rw [hH]; exact hexB_any d hdb hdl _ W h.dat h.tx
  have CB : Hid (∀ W, Bk (.slice o d.length c) d w W → Calls Tryd.prog 12 #[.slice o d.length c] W fun e w' => e = .returned (.string B) ∧ Below W.heap.size W w') := fun W h => by rw [hB]; exact b32B_any d hdb hdl _ W h.dat h.tx
  have CC : Hid (∀ W, Bk (.slice o d.length c) d w W → Calls Tryd.prog 14 #[.slice o d.length c] W fun e w' => e = .returned (.string C) ∧ Below W.heap.size W w') := fun W h => by rw [hC]; exact b64B_any d hdb hdl _ W h.dat h.tx
  have UH : Hid (∀ W, Tx W → Calls Tryd.prog 20 #[.string H] W (RdP d (0, 0) W)) := fun W h => by rw [hH]; exact unhex_b d hdb hdl W h
  have UB : Hid (∀ W, Tx W → Calls Tryd.prog 21 #[.string B] W (RdP d (0, 0) W)) := fun W h => by rw [hB]; exact un32_b d hdb hdl W h
  have UC : Hid (∀ W, Tx W → Calls Tryd.prog 22 #[.string C] W (RdP d (0, 0) W)) := fun W h => by rw [hC]; exact un64_b d hdb hdl W h
  have BY : Hid (∀ (x : Value) (W : World), Byl x d W → Byl (.slice o d.length c) d W → Calls Tryd.prog 18 #[x, .slice o d.length c] W fun e w' => e = .returned (.bool true) ∧ Below W.heap.size W w') := fun x W h1 h2 => by
    have := bytesB_any d d (by omega) x (.slice o d.length c) W h1 h2
    simpa using this
  have HBS : Hid (B = str (b32L d) ∧ B.size = n32 d.length) := ⟨hB, hBs⟩
  clear hH hB hC hm ht hv hBs
  go_enter Tryd.func4, Tryd.ntmps4
  go_wp2_with fail
  refine (CH.out w S0.out).mono ?_
  rintro e W1 ⟨rfl, b1⟩
  have S1 : Hid (Bk (.slice o d.length c) d w W1) := S0.out.below b1
  clear S0 b1
  go_wp2_with fail
  refine (CB.out W1 S1.out).mono ?_
  rintro e W2 ⟨rfl, b2⟩
  have S2 : Hid (Bk (.slice o d.length c) d w W2) := S1.out.below b2
  clear S1 b2
  go_wp2_with fail
  refine (CC.out W2 S2.out).mono ?_
  rintro e W3 ⟨rfl, b3⟩
  have S3 : Hid (Bk (.slice o d.length c) d w W3) := S2.out.below b3
  clear S2 b3 CH CC
  go_wp2_with fail
  refine (UH.out W3 S3.out.tx).mono ?_
  rintro e Wa1 ⟨ba, x1, rfl, hx⟩
  have Xa : Hid (Own W3.heap.size Wa1.heap.size x1 d Wa1) := own_read ((if_pos rfl).mp hx)
  have Sa1 : Hid (Bk (.slice o d.length c) d w Wa1) := S3.out.below ba
  have q0 : w.heap.size ≤ W3.heap.size := S3.out.bel.size
  have q1 : W3.heap.size ≤ Wa1.heap.size := ba.size
  clear ba hx S3
  go_wp2_with fail
  refine (UB.out Wa1 Sa1.out.tx).mono ?_
  rintro e Wb1 ⟨bb, y1, rfl, hy⟩
  have Yb : Hid (Own Wa1.heap.size Wb1.heap.size y1 d Wb1) := own_read ((if_pos rfl).mp hy)
  have Xb : Hid (Own W3.heap.size Wa1.heap.size x1 d Wb1) := Xa.out.below bb
  have Sb1 : Hid (Bk (.slice o d.length c) d w Wb1) := Sa1.out.below bb
  have q2 : Wa1.heap.size ≤ Wb1.heap.size := bb.size
  clear bb hy Sa1 Xa
  go_wp2_with fail
  refine (UC.out Wb1 Sb1.out.tx).mono ?_
  rintro e Wc1 ⟨bc, z1, rfl, hz⟩
  have Zc : Hid (Own Wb1.heap.size Wc1.heap.size z1 d Wc1) := own_read ((if_pos rfl).mp hz)
  have Xc : Hid (Own W3.heap.size Wa1.heap.size x1 d Wc1) := Xb.out.below bc
  have Yc : Hid (Own Wa1.heap.size Wb1.heap.size y1 d Wc1) := Yb.out.below bc
  have Sc1 : Hid (Bk (.slice o d.length c) d w Wc1) := Sb1.out.below bc
  have q3 : Wb1.heap.size ≤ Wc1.heap.size := bc.size
  clear bc hz Sb1 Xb Yb
  go_wp2_with fail
  refine (BY.out x1 Wc1 Xc.out.byl Sc1.out.dat).mono ?_
  rintro e We1 ⟨rfl, be⟩
  have Xe := Hid.mk' (Xc.out.below be)
  have Ye := Hid.mk' (Yc.out.below be)
  have Ze := Hid.mk' (Zc.out.below be)
  have Se1 : Hid (Bk (.slice o d.length c) d w We1) := Sc1.out.below be
  have q4 : Wc1.heap.size ≤ We1.heap.size := be.size
  clear be Xc Yc Zc Sc1
  go_wp2_with fail
  refine (BY.out y1 We1 Ye.out.byl Se1.out.dat).mono ?_
  rintro e Wf1 ⟨rfl, bf⟩
  have Xf := Hid.mk' (Xe.out.below bf)
  have Yf := Hid.mk' (Ye.out.below bf)
  have Zf := Hid.mk' (Ze.out.below bf)
  have Sf1 : Hid (Bk (.slice o d.length c) d w Wf1) := Se1.out.below bf
  have q5 : We1.heap.size ≤ Wf1.heap.size := bf.size
  clear bf Xe Ye Ze Se1
  go_wp2_with fail
  refine (BY.out z1 Wf1 Zf.out.byl Sf1.out.dat).mono ?_
  rintro e Wg1 ⟨rfl, bg⟩
  have Xg := Hid.mk' (Xf.out.below bg)
  have Yg := Hid.mk' (Yf.out.below bg)
  have Zg := Hid.mk' (Zf.out.below bg)
  have Sg1 : Hid (Bk (.slice o d.length c) d w Wg1) := Sf1.out.below bg
  have q6 : Wf1.heap.size ≤ Wg1.heap.size := bg.size
  clear bg Xf Yf Zf Sf1
  have AP := apart_any W3.heap.size Wa1.heap.size Wb1.heap.size Wc1.heap.size q1 q2 q3 x1 y1 z1 d d d d.length d.length d.length rfl rfl rfl (by omega) (by omega) (by omega) Wg1 (by omega) Xg.out Yg.out Zg.out
  go_wp2_with fail
  refine AP.mono ?_
  rintro e Wh1 ⟨rfl, th⟩
  have Sh1 : Hid (Bk (.slice o d.length c) d w Wh1) := Sg1.out.tch (fun g hg => Nat.lt_of_lt_of_le (hvl.out g hg) q0) q0 h2s th
  clear AP th Sg1 Xg Yg Zg q0 q1 q2 q3 q4 q5 q6
  as_aux_lemma =>
  go_wp2_with fail
  refine (UH.out Wh1 Sh1.out.tx).mono ?_
  rintro e Wa2 ⟨ba, x2, rfl, hx⟩
  have Xa : Hid (Own Wh1.heap.size Wa2.heap.size x2 d Wa2) := own_read ((if_pos rfl).mp hx)
  have Sa2 : Hid (Bk (.slice o d.length c) d w Wa2) := Sh1.out.below ba
  have q0 : w.heap.size ≤ Wh1.heap.size := Sh1.out.bel.size
  have q1 : Wh1.heap.size ≤ Wa2.heap.size := ba.size
  clear ba hx Sh1
  go_wp2_with fail
  refine (UB.out Wa2 Sa2.out.tx).mono ?_
  rintro e Wb2 ⟨bb, y2, rfl, hy⟩
  have Yb : Hid (Own Wa2.heap.size Wb2.heap.size y2 d Wb2) := own_read ((if_pos rfl).mp hy)
  have Xb : Hid (Own Wh1.heap.size Wa2.heap.size x2 d Wb2) := Xa.out.below bb
  have Sb2 : Hid (Bk (.slice o d.length c) d w Wb2) := Sa2.out.below bb
  have q2 : Wa2.heap.size ≤ Wb2.heap.size := bb.size
  clear bb hy Sa2 Xa
  go_wp2_with fail
  refine (UC.out Wb2 Sb2.out.tx).mono ?_
  rintro e Wc2 ⟨bc, z2, rfl, hz⟩
  have Zc : Hid (Own Wb2.heap.size Wc2.heap.size z2 d Wc2) := own_read ((if_pos rfl).mp hz)
  have Xc : Hid (Own Wh1.heap.size Wa2.heap.size x2 d Wc2) := Xb.out.below bc
  have Yc : Hid (Own Wa2.heap.size Wb2.heap.size y2 d Wc2) := Yb.out.below bc
  have Sc2 : Hid (Bk (.slice o d.length c) d w Wc2) := Sb2.out.below bc
  have q3 : Wb2.heap.size ≤ Wc2.heap.size := bc.size
  clear bc hz Sb2 Xb Yb
  go_wp2_with fail
  refine (BY.out x2 Wc2 Xc.out.byl Sc2.out.dat).mono ?_
  rintro e We2 ⟨rfl, be⟩
  have Xe := Hid.mk' (Xc.out.below be)
  have Ye := Hid.mk' (Yc.out.below be)
  have Ze := Hid.mk' (Zc.out.below be)
  have Se2 : Hid (Bk (.slice o d.length c) d w We2) := Sc2.out.below be
  have q4 : Wc2.heap.size ≤ We2.heap.size := be.size
  clear be Xc Yc Zc Sc2
  go_wp2_with fail
  refine (BY.out y2 We2 Ye.out.byl Se2.out.dat).mono ?_
  rintro e Wf2 ⟨rfl, bf⟩
  have Xf := Hid.mk' (Xe.out.below bf)
  have Yf := Hid.mk' (Ye.out.below bf)
  have Zf := Hid.mk' (Ze.out.below bf)
  have Sf2 : Hid (Bk (.slice o d.length c) d w Wf2) := Se2.out.below bf
  have q5 : We2.heap.size ≤ Wf2.heap.size := bf.size
  clear bf Xe Ye Ze Se2
  go_wp2_with fail
  refine (BY.out z2 Wf2 Zf.out.byl Sf2.out.dat).mono ?_
  rintro e Wg2 ⟨rfl, bg⟩
  have Xg := Hid.mk' (Xf.out.below bg)
  have Yg := Hid.mk' (Yf.out.below bg)
  have Zg := Hid.mk' (Zf.out.below bg)
  have Sg2 : Hid (Bk (.slice o d.length c) d w Wg2) := Sf2.out.below bg
  have q6 : Wf2.heap.size ≤ Wg2.heap.size := bg.size
  clear bg Xf Yf Zf Sf2
  have AP := apart_any Wh1.heap.size Wa2.heap.size Wb2.heap.size Wc2.heap.size q1 q2 q3 x2 y2 z2 d d d d.length d.length d.length rfl rfl rfl (by omega) (by omega) (by omega) Wg2 (by omega) Xg.out Yg.out Zg.out
  go_wp2_with fail
  refine AP.mono ?_
  rintro e Wh2 ⟨rfl, th⟩
  have Sh2 : Hid (Bk (.slice o d.length c) d w Wh2) := Sg2.out.tch (fun g hg => Nat.lt_of_lt_of_le (hvl.out g hg) q0) q0 h2s th
  clear AP th Sg2 Xg Yg Zg q0 q1 q2 q3 q4 q5 q6
  as_aux_lemma =>
  have hB2 := Sh2.out.bel
  by_cases h0 : d.length = 0
  · have h0' : (d.length : Int) = 0 := by omega
    go_wp2
    go_ret
    exact ⟨rfl, hB2⟩
  have h0' : ¬ ((d.length : Int) = 0) := by omega
  have hpos : 0 < d.length := by omega
  obtain ⟨o', c', hoc, _, _, hfm⟩ := Sh2.out.dat.form
  obtain ⟨b, off, rfl, hb, hcl⟩ := ho hpos
  simp only [Value.slice.injEq] at hoc
  obtain ⟨rfl, _, rfl⟩ := hoc
  obtain ⟨b', off', hbo, hb2, hcl2⟩ := hfm hpos
  simp only [Option.some.injEq, Addr.mk.injEq, and_true] at hbo
  obtain ⟨rfl, rfl⟩ := hbo
  obtain ⟨x, hx⟩ : ∃ x, x = d.getD 0 0 := ⟨_, rfl⟩
  have hx256 : x < 256 := by rw [hx]; exact getT hdb _
  have cx : Wh2.cell? ⟨b, off, none⟩ = some (.int .u8 (x : Int)) := by
    have := hcl2 0 hpos
    rw [Nat.add_zero, ← hx] at this
    exact this
  obtain ⟨κ, hκ⟩ : ∃ κ, κ = x % 32 := ⟨_, rfl⟩
  have hκ32 : κ < 32 := by rw [hκ]; exact Nat.mod_lt _ (by decide)
  have hand : bits BinOp.and IntKind.u8 (x : Int) 31 = (κ : Int) := by rw [hκ]; exact u8_and31 x hx256
  have hn0 : (0 : Int) < (d.length : Int) := by omega
  clear hfm hcl hcl2
  by_cases h31 : κ = 31
  · have h31' : (κ : Int) = 31 := by omega
    clear hκ hx
    go_wp2
    go_ret
    exact ⟨rfl, hB2⟩
  have h31' : ((κ : Int) == 31) = false := by rw [beq_eq_false_iff_ne]; omega
  have h00' : ((d.length : Int) == 0) = false := by rw [beq_eq_false_iff_ne]; omega
  obtain ⟨v1, W4, hr4, ho4, hg4⟩ := run_append_byl Wh2 Wh2.heap.size 0 22 (.slice none 0 0) (.slice (some ⟨b, off, none⟩) d.length c) [] d (World.ownsRow_nil _ _ _ _) Sh2.out.dat (by omega) (Nat.le_refl _)
  rw [List.nil_append, Nat.zero_add] at ho4
  have b4 : Below Wh2.heap.size Wh2 W4 := below_grown (Below.refl _ Wh2) hg4 (Nat.le_refl _) (fun g hg => by cases hg)
  have O4 : Own Wh2.heap.size W4.heap.size v1 d W4 := own_read ho4
  obtain ⟨o1, c1, rfl, _, _, _⟩ := O4.byl.form
  obtain ⟨g, rfl, hg1, hg2, hg3, _⟩ := O4.form hpos
  obtain ⟨O5, ⟨vc, hvc⟩, f1⟩ := own_set O4 0 (x + 1) hpos
  clear hvc
  have cg : W4.cell? ⟨g, 0, none⟩ = some (.int .u8 (x : Int)) := by
    obtain ⟨_, _, h1, _, _, h2⟩ := O4.byl.form
    obtain ⟨b9, off9, h3, _, h4⟩ := h2 hpos
    simp only [Value.slice.injEq] at h1
    rw [← h1.1] at h3
    simp only [Option.some.injEq, Addr.mk.injEq, and_true] at h3
    have := h4 0 hpos
    rw [← h3.1, ← h3.2, ← hx] at this
    exact this
  obtain ⟨W5, hW5⟩ : ∃ W, W4.setCell ⟨g, 0, none⟩ (.int .u8 ((x + 1 : Nat) : Int)) = W := ⟨_, rfl⟩
  have hW5' : W4.setCell ⟨g, 0, none⟩ (.int .u8 ((x : Int) + 1)) = W5 := hW5
  rw [hW5] at O5
  have hx1 : x + 1 < 256 := by omega
  have hxW : IntKind.u8.wrap ((x : Int) + 1) = (x : Int) + 1 := wraps_u8 _ (by omega) (by omega)
  have S5 : Hid (Bk (.slice (some ⟨b, off, none⟩) d.length c) d w W5) := by
    have h4 := Sh2.out.below b4
    have t5 : Tch Wh2.heap.size W4.heap.size W4 W5 := by rw [← hW5]; exact tch_set (Tch.refl _ _ W4) hg1 hg2 _
    exact h4.tch (fun g' hg' => Nat.lt_of_lt_of_le (hvl.out g' hg') Sh2.out.bel.size) Sh2.out.bel.size h2s t5
  obtain ⟨e, he⟩ : ∃ e, e = d.set 0 (x + 1) := ⟨_, rfl⟩
  rw [← he] at O5
  have hel : e.length = d.length := by rw [he, List.length_set]
  have heb : Byt e := fun y hy => by
    rw [he] at hy
    rcases List.mem_or_eq_of_mem_set hy with h | h
    · exact hdb y h
    · omega
  have hnum : num e = num d + 1 := by rw [he, hx]; exact num_set hpos
  have hlow : num d % 32 = κ := by rw [num_low hpos, hκ, hx]
  obtain ⟨n1, n2, n3⟩ := b32_next hdb heb hpos hel hnum (by omega)
  obtain ⟨D, hD⟩ : ∃ D, D = str (b32L e) := ⟨_, rfl⟩
  have CD : Hid (Calls Tryd.prog 12 #[.slice (some ⟨g, 0, none⟩) d.length c1] W5 fun e w' => e = .returned (.string D) ∧ Below W5.heap.size W5 w') := by
    rw [hD]
    exact b32B_any e heb (by omega) _ W5 O5.byl S5.out.tx
  have hDs : D.size = B.size := by rw [hD, str_size, b32L_len, hel, HBS.out.2]
  have hqp : 0 < B.size := by rw [HBS.out.2]; unfold n32; omega
  have htB : tl B = b32L d := by rw [HBS.out.1]; exact byt_str _ (b32L_byt d)
  have htD : tl D = b32L e := by rw [hD]; exact byt_str _ (b32L_byt e)
  obtain ⟨q, hq⟩ : ∃ q, q = B.size - 1 := ⟨_, rfl⟩
  have hqn : q = n32 d.length - 1 := by rw [hq, HBS.out.2]
  obtain ⟨Y, hY⟩ : ∃ Y, B.extract 0 q = Y := ⟨_, rfl⟩
  have hY2 : D.extract 0 q = Y := by
    rw [← hY]
    apply tl_inj
    rw [tl_take D q (by omega), tl_take B q (by omega), htB, htD, hqn, n1]
  have hbB : byt B q = g32 κ := by rw [← tl_get B q (by omega), htB, hqn, n2, hlow]
  have hbD : byt D q = g32 (κ + 1) := by
    rw [← tl_get D q (by omega), htD, hqn, n3, hnum, succ_mod hlow h31]
  have hixB : ∀ W : World, (Instr.index 9 (.string B) (.int .i64 (q : Int))).run Tryd.prog W = .ok (.int .u8 ((g32 κ : Nat) : Int)) W := fun W => by rw [← hbB]; exact idx9 W B q (by omega)
  have hixD : ∀ W : World, (Instr.index 9 (.string D) (.int .i64 (q : Int))).run Tryd.prog W = .ok (.int .u8 ((g32 (κ + 1) : Nat) : Int)) W := fun W => by rw [← hbD]; exact idx9 W D q (by omega)
  obtain ⟨γ, hγ⟩ : ∃ γ, γ = g32 κ := ⟨_, rfl⟩
  obtain ⟨δ, hδ⟩ : ∃ δ, δ = g32 (κ + 1) := ⟨_, rfl⟩
  have hig : ∀ W : World, (ix32 (.int .u8 (κ : Int))).run Tryd.prog W = .ok (.int .u8 (γ : Int)) W := fun W => by rw [hγ]; exact run_ix32 W κ hκ32
  have hid : ∀ W : World, (ix32 (.int .u8 ((κ : Int) + 1))).run Tryd.prog W = .ok (.int .u8 (δ : Int)) W := fun W => by
    have := run_ix32 W (κ + 1) (lt_32 hκ32 h31)
    rw [← hδ] at this
    exact this
  rw [← hγ] at hixB
  rw [← hδ] at hixD
  have hand1 : bits BinOp.and IntKind.u8 ((x : Int) + 1) 31 = (κ : Int) + 1 := by
    have := u8_and31 (x + 1) hx1
    rw [succ_mod hκ.symm h31] at this
    exact this
  have hqI : (B.size : Int) - 1 = (q : Int) := by omega
  have hqW : IntKind.i64.wrap (q : Int) = (q : Int) := by
    have := HBS.out.2
    rw [IntKind.wrap_i64]
    unfold n32 at this
    omega
  have hqW1 : IntKind.i64.wrap ((q : Int) + 1) = (q : Int) + 1 := by
    have := HBS.out.2
    rw [IntKind.wrap_i64]
    unfold n32 at this
    omega
  have hDq : (D.size : Int) = (q : Int) + 1 := by omega
  have hq0 : (0 : Int) ≤ (q : Int) := by omega
  have hqB : (q : Int) ≤ (B.size : Int) := by omega
  have hqD : (q : Int) ≤ (q : Int) + 1 := by omega
  have CX : Hid (∀ W, Below W5.heap.size W5 W → W.cell? ⟨b, off, none⟩ = some (.int .u8 (x : Int)) ∧ W.cell? ⟨g, 0, none⟩ = some (.int .u8 ((x : Int) + 1)) ∧ Below w.heap.size w W) := fun W hW => by
    have S6 := S5.out.below hW
    refine ⟨?_, ?_, S6.bel⟩
    · obtain ⟨_, _, h1, _, _, h2⟩ := S6.dat.form
      obtain ⟨b9, off9, h3, _, h4⟩ := h2 hpos
      simp only [Value.slice.injEq] at h1
      rw [← h1.1] at h3
      simp only [Option.some.injEq, Addr.mk.injEq, and_true] at h3
      have := h4 0 hpos
      rw [← h3.1, ← h3.2, ← hx] at this
      exact this
    · obtain ⟨_, _, h1, _, _, h2⟩ := (O5.below hW).byl.form
      obtain ⟨b9, off9, h3, _, h4⟩ := h2 (by omega)
      simp only [Value.slice.injEq] at h1
      rw [← h1.1] at h3
      simp only [Option.some.injEq, Addr.mk.injEq, and_true] at h3
      have := h4 0 (by omega)
      rw [← h3.1, ← h3.2, he] at this
      simpa [List.getD, hpos] using this
  clear hx hκ hγ hδ he hD hDs hqp hel heb hx256 hx1 hq hqn n1 n2 n3 htB htD hbB hbD O4 O5 ho4 hg4 hnum hlow hW5 Sh2
  as_aux_lemma =>
  go_wp2_with fail
  refine CD.out.mono ?_
  rintro e W6 ⟨rfl, b6⟩
  obtain ⟨k1, k2, k3⟩ := CX.out W6 b6
  clear CX CD b6
  go_wp2_with fail
  go_quiet (fail)
  go_wp2
  go_ret
  exact ⟨rfl, Below.drewN' k3 _⟩
end Go.Proofs.YtkppejaigodgiabDoor
