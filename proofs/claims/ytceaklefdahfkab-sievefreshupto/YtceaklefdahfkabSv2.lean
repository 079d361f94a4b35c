/- The sieve's table: where a byte leads. -/
import Derived.Test.YtceaklefdahfkabSv1
import Derived.Shelf.Bytes.SlIndexAt
import Derived.Laws.Externs
namespace Go.Proofs.Ytceaklefdahfkab
open Go.RowKit
def Byt (l : List Nat) : Prop := ∀ x ∈ l, x < 256
theorem ix_eq : ∀ (l : List Nat) (c : Nat), Byt l → c < 256 → Lib.indexByte (Lib.bytesOf (l.map fun (x : Nat) => (x : Int))) (c : Int).toNat.toUInt8 = if l.idxOf c < l.length then ((l.idxOf c : Nat) : Int) else -1
  | [], _, _, _ => rfl
  | b :: l, c, hb, hc => by
    have ih := ix_eq l c (fun x hx => hb x (List.mem_cons_of_mem _ hx)) hc
    have hb1 : b < 256 := hb b (by simp)
    have e : (UInt8.ofNat (b : Int).toNat == (c : Int).toNat.toUInt8) = (b == c) := by
      rw [Bool.eq_iff_iff, beq_iff_eq, beq_iff_eq, ← UInt8.toNat_inj]
      simp
      omega
    simp only [List.map_cons, Lib.bytesOf] at ih ⊢
    rw [Lib.indexByte, e]
    by_cases h : b = c
    · subst h
      simp
    · have h' : (b == c) = false := by simpa using h
      have hi : (b :: l).idxOf c = l.idxOf c + 1 := by rw [List.idxOf_cons, h']; rfl
      rw [h', hi]
      simp only [Bool.false_eq_true, if_false, List.length_cons]
      rw [ih]
      by_cases h2 : l.idxOf c < l.length
      · have e2 : ((((l.idxOf c : Nat) : Int) == -1) = true) = False := by simp
        rw [if_pos h2, if_pos (show l.idxOf c + 1 < l.length + 1 by omega)]
        simp only [e2, if_false]
        omega
      · rw [if_neg h2, if_neg (show ¬ (l.idxOf c + 1 < l.length + 1) by omega)]
        simp
set_option maxRecDepth 1000000 in
theorem ib_any (a : Addr) (cap : Nat) (l : List Nat) (hb : Byt l) (c : Nat) (hc : c < 256) (w : World) (h : ∀ i, i < l.length → w.cell? (a.add i) = some (.int .u8 ((l.getD i 0 : Nat) : Int))) :
    Calls Try.prog 78 #[.slice (some a) l.length cap, .int .u8 (c : Int)] w fun e w' => e = .returned (.int .i64 (if l.idxOf c < l.length then ((l.idxOf c : Nat) : Int) else -1)) ∧ w' = w := by
  have hr := Lib.run_indexByteAt (P := Try.prog) w a l.length cap (l.map fun (x : Nat) => (x : Int)) (by simp) (fun i hi => by rw [h i hi]; simp [List.getD, hi]) (c : Int)
  rw [ix_eq l c hb hc] at hr
  generalize (if l.idxOf c < l.length then ((l.idxOf c : Nat) : Int) else -1) = r at hr ⊢
  go_enter Try.func78, Try.ntmps78
  go_wp2
  rw [run_callFunc_extern Try.func93 (by kernel_rfl) (by kernel_rfl) (by kernel_rfl) (e := Extern.BytealgIndexByte.indexByte) (by kernel_rfl), hr]
  simp only [Result.andThen]
  rw [Oper.upon_value]
  go_wp2
  go_ret
  exact ⟨rfl, rfl⟩
/-- A cut, kept shut. -/
def slB (v : Value) (lo hi mx : Option Value) : Sem Value := Instr.slice 23 v lo hi mx
theorem toSlB (v : Value) (lo hi mx : Option Value) : Instr.slice 23 v lo hi mx = slB v lo hi mx := rfl
theorem elem27 : Try.prog.elem 23 = 5 := by kernel_rfl
theorem size5 : (Try.prog.info? 5).map (·.size) = some 1 := by kernel_rfl
theorem u27 : Try.prog.underlying 23 = some (.slice (Try.prog.elem 23)) := by kernel_rfl
theorem run_size1 {P : Program} {e : TypeId} (w : World) (h1 : (P.info? e).map (·.size) = some 1) : (sizeOf e).run P w = .ok 1 w := by
  cases hq : P.info? e with
  | none => simp [hq] at h1
  | some i => simp [hq] at h1; simp [sizeOf, typeInfo, hq, h1]
theorem run_cut32 (b off n c l h : Nat) (h1 : l ≤ h) (h2 : h ≤ c) : ∃ a, (∀ w : World, (slB (.slice (some ⟨b, off, none⟩) n c) (some (.int .i32 (l : Int))) (some (.int .i32 (h : Int))) none).run Try.prog w = .ok (.slice (some a) (h - l) (c - l)) w) ∧ (l < h → a = ⟨b, off + l, none⟩) := by
  have key : ∀ w : World, (slB (.slice (some ⟨b, off, none⟩) n c) (some (.int .i32 (l : Int))) (some (.int .i32 (h : Int))) none).run Try.prog w = .ok (.slice (if c = l then some ⟨b, off, none⟩ else (some ⟨b, off, none⟩ : Option Addr).map (·.add (l * 1))) (h - l) (c - l)) w := fun w => by
   have := run_slice_lh (P := Try.prog) w 23 (some ⟨b, off, none⟩) n c u27 .i32 .i32 (l : Int) (h : Int) (by omega) (by omega) (by omega)
   unfold slB
   rw [this, elem27, run_size1 w size5]
   simp only [Result.andThen, sliced, Int.toNat_natCast]
  by_cases hc : c = l
  · simp only [if_pos hc] at key
    exact ⟨_, key, fun hlt => by omega⟩
  · simp only [if_neg hc, Option.map_some] at key
    exact ⟨_, key, fun _ => by rw [Nat.mul_one]; exact Go.WideShapes.add_plain _ _ _⟩
/-- Where a byte leads. -/
def seg (t : Tbl) (s : Nat) : List Nat := (t.letters.drop (t.firsts.getD s 0)).take (t.firsts.getD (s + 1) 0 - t.firsts.getD s 0)
def nx (t : Tbl) (c : Nat) : Nat → Nat → Nat
  | 0, _ => 0
  | f + 1, s => if s < t.rows.length then (t.rows.getD s []).getD c 0 else if (seg t s).idxOf c < (seg t s).length then t.firsts.getD s 0 + (seg t s).idxOf c else nx t c f (t.backs.getD s 0)
/-- What next leans on. -/
structure Nw (t : Tbl) (s : Nat) : Prop where
  lt : s + 1 < t.firsts.length
  le : t.firsts.getD s 0 ≤ t.firsts.getD (s + 1) 0
  ll : t.firsts.getD (s + 1) 0 ≤ t.letters.length
  bl : s < t.backs.length
  bs : t.backs.getD s 0 < s
theorem seg_len {t : Tbl} {s : Nat} (h : Nw t s) : (seg t s).length = t.firsts.getD (s + 1) 0 - t.firsts.getD s 0 := by
  have := h.le
  have := h.ll
  unfold seg
  rw [List.length_take, List.length_drop]
  omega
theorem seg_get {t : Tbl} {s : Nat} (j : Nat) (hj : j < t.firsts.getD (s + 1) 0 - t.firsts.getD s 0) : (seg t s).getD j 0 = t.letters.getD (t.firsts.getD s 0 + j) 0 := by
  unfold seg
  rw [List.getD, List.getElem?_take, if_pos hj, List.getElem?_drop, ← List.getD]
theorem seg_byt {t : Tbl} (h : Byt t.letters) (s : Nat) : Byt (seg t s) := fun x hx => h x (List.mem_of_mem_drop (List.mem_of_mem_take hx))
attribute [local go_sem ↓] toSlB
set_option maxRecDepth 100000 in
set_option maxHeartbeats 1600000 in
theorem next_any (g : Nat) (t : Tbl) (hb : Bd t) (hl : Byt t.letters) (c : Nat) (hc : c < 256) (s0 : Nat) (hs0 : s0 ≤ 1000000) (hr0 : 0 < t.rows.length) (hl0 : 0 < t.letters.length) (hn : ∀ s, t.rows.length ≤ s → s ≤ s0 → Nw t s) (w : World) (h : Tab g t w) :
    Calls Try.prog 55 #[.pointer (some ⟨g, 0, none⟩), .int .i32 (s0 : Int), .int .u8 (c : Int)] w fun e w' => e = .returned (.int .i32 ((nx t c (s0 + 1) s0 : Nat) : Int)) ∧ ∃ q, w' = w.drewN q := by
  obtain ⟨vl, vd, vf, vb, vr, vv, h0, h1, _, h3, h4, h5, _⟩ := h
  obtain ⟨ol, cl, rfl, hl1, hl2, hl3⟩ := h1.form
  obtain ⟨of', cf, rfl, _, _, hf3⟩ := h3.form
  obtain ⟨ob, cb, rfl, _, _, hb3⟩ := h4.form
  obtain ⟨or', cr, rfl, _, hr3⟩ := h5.form
  have c1 : w.cell? ⟨g, 1, none⟩ = some (.slice ol t.letters.length cl) := (cell_of_row w g 1 _ _ _ h0).trans rfl
  have c3 : w.cell? ⟨g, 3, none⟩ = some (.slice of' t.firsts.length cf) := (cell_of_row w g 3 _ _ _ h0).trans rfl
  have c4 : w.cell? ⟨g, 4, none⟩ = some (.slice ob t.backs.length cb) := (cell_of_row w g 4 _ _ _ h0).trans rfl
  have c5 : w.cell? ⟨g, 5, none⟩ = some (.slice or' t.rows.length cr) := (cell_of_row w g 5 _ _ _ h0).trans rfl
  obtain ⟨br, offr, rfl, _, hcr⟩ := hr3 hr0
  have HCR : Hid (∀ j c, j < t.rows.length → c < 256 → w.cell? ⟨br, offr + j * 256 + c, none⟩ = some (.int .i32 (((t.rows.getD j []).getD c 0 : Nat) : Int))) := hcr
  have HL3 : Hid _ := hl3
  have HF3 : Hid _ := hf3
  have HB3 : Hid _ := hb3
  have HN : Hid (∀ s, t.rows.length ≤ s → s ≤ s0 → Nw t s) := hn
  have HBD : Hid (Bd t) := hb
  have HLB : Hid (Byt t.letters) := hl
  clear h0 h1 h3 h4 h5 hl3 hf3 hb3 hcr hr3 hn hb hl
  go_enter Try.func55, Try.ntmps55
  go_wp2_with fail
  go_loopw [1] (fun i wr => ∃ s f q : Nat, i = .int .i32 (s : Int) ∧ s < f ∧ s ≤ s0 ∧ Hid (nx t c (s0 + 1) s0 = nx t c f s) ∧ Hid (wr = w.drewN q)) (fun i _ => (intOf i).toNat)
  case atStart => exact ⟨s0, s0 + 1, 0, rfl, by omega, Nat.le_refl _, rfl, rfl⟩
  case round =>
    obtain ⟨s, f, q, rfl, hf, hs, HE, HW⟩ := hrel
    have d1 : wr.cell? ⟨g, 1, none⟩ = some (.slice ol t.letters.length cl) := by rw [HW.out]; exact c1
    have d3 : wr.cell? ⟨g, 3, none⟩ = some (.slice of' t.firsts.length cf) := by rw [HW.out]; exact c3
    have d4 : wr.cell? ⟨g, 4, none⟩ = some (.slice ob t.backs.length cb) := by rw [HW.out]; exact c4
    have d5 : wr.cell? ⟨g, 5, none⟩ = some (.slice (some ⟨br, offr, none⟩) t.rows.length cr) := by rw [HW.out]; exact c5
    clear c1 c3 c4 c5
    obtain ⟨f', rfl⟩ : ∃ f', f = f' + 1 := ⟨f - 1, by omega⟩
    have hs0' : (0 : Int) ≤ (s : Int) := by omega
    by_cases hlt : s < t.rows.length
    · have hs1 : (s : Int) < (t.rows.length : Int) := by omega
      have hc0 : (0 : Int) ≤ (c : Int) := by omega
      have hc1 : (c : Int) < 256 := by omega
      have cr1 : wr.cell? ⟨br, offr + s * 256 + c, none⟩ = some (.int .i32 (((t.rows.getD s []).getD c 0 : Nat) : Int)) := by rw [HW.out]; exact HCR.out s c hlt hc
      have HV : Hid (nx t c (s0 + 1) s0 = (t.rows.getD s []).getD c 0) := by show _ = _; rw [HE.out, nx, if_pos hlt]
      revert cr1 HV
      generalize (t.rows.getD s []).getD c 0 = x
      intro cr1 HV
      go_wp2
      go_ret
      exact ⟨by rw [HV.out]; rfl, q, HW.out⟩
    · have hs1 : ¬ ((s : Int) < (t.rows.length : Int)) := by omega
      have hs2 : (t.rows.length : Int) ≤ (s : Int) := by omega
      have hN := HN.out s (by omega) hs
      have hbf := HBD.out.f s
      have hbf1 := HBD.out.f (s + 1)
      have hbb := HBD.out.b s
      have hfl := HBD.out.fl
      have hlt1 := hN.lt
      have hbs := hN.bs
      have hll := hN.ll
      have hle := hN.le
      have hbl := hN.bl
      have SL := seg_len hN
      have SB : Hid (Byt (seg t s)) := seg_byt HLB.out s
      have SG : Hid (∀ j, j < t.firsts.getD (s + 1) 0 - t.firsts.getD s 0 → (seg t s).getD j 0 = t.letters.getD (t.firsts.getD s 0 + j) 0) := fun j hj => seg_get j hj
      have HE2 : Hid (nx t c (s0 + 1) s0 = if (seg t s).idxOf c < (seg t s).length then t.firsts.getD s 0 + (seg t s).idxOf c else nx t c f' (t.backs.getD s 0)) := by show _ = _; rw [HE.out, nx, if_neg hlt]
      obtain ⟨bf, offf, hof, _, hcf⟩ := HF3.out (by omega)
      obtain ⟨bb, offb, hob, _, hcb⟩ := HB3.out (by omega)
      obtain ⟨bl', offl, hol, _, hcl⟩ := HL3.out (by omega)
      subst hof hob hol
      have cf0 : wr.cell? ⟨bf, offf + s, none⟩ = some (.int .i32 ((t.firsts.getD s 0 : Nat) : Int)) := by rw [HW.out]; exact hcf s (by omega)
      have cf1 : wr.cell? ⟨bf, offf + (s + 1), none⟩ = some (.int .i32 ((t.firsts.getD (s + 1) 0 : Nat) : Int)) := by rw [HW.out]; exact hcf (s + 1) (by omega)
      have cb0 : wr.cell? ⟨bb, offb + s, none⟩ = some (.int .i32 ((t.backs.getD s 0 : Nat) : Int)) := by rw [HW.out]; exact hcb s (by omega)
      have HCL : Hid (∀ j, j < t.letters.length → ∀ q, (wr.drewN q).cell? ⟨bl', offl + j, none⟩ = some (.int .u8 ((t.letters.getD j 0 : Nat) : Int))) := fun j hj q => by rw [HW.out]; exact hcl j hj
      clear hcf hcb hcl HN HBD HLB hN HCR HL3 HF3 HB3 HE
      revert hbf hbf1 hbb hbs hll hle SL SB SG HE2 cf0 cf1 cb0
      generalize t.firsts.getD s 0 = F0, t.firsts.getD (s + 1) 0 = F1, t.backs.getD s 0 = B0, seg t s = sg
      intro hbf hbf1 hbb hbs hll hle SL SB SG HE2 cf0 cf1 cb0
      obtain ⟨a, hcut, ha⟩ := run_cut32 bl' offl t.letters.length cl F0 F1 hle (by omega)
      rw [← SL] at hcut
      obtain ⟨s1, hs1e⟩ : ∃ s1, s1 = s + 1 := ⟨_, rfl⟩
      rw [← hs1e] at cf1
      have e1 : (s : Int) + 1 = (s1 : Int) := by omega
      have hs1l : (s1 : Int) < (t.firsts.length : Int) := by omega
      have hs10 : (0 : Int) ≤ (s1 : Int) := by omega
      have hsl : (s : Int) < (t.firsts.length : Int) := by omega
      have hsb : (s : Int) < (t.backs.length : Int) := by omega
      have hs1w : (s1 : Int) < 2147483648 := by omega
      have CI : Hid (∀ q, Calls Try.prog 78 #[.slice (some a) sg.length (cl - F0), .int .u8 (c : Int)] (wr.drewN q) fun e w' => e = .returned (.int .i64 (if sg.idxOf c < sg.length then ((sg.idxOf c : Nat) : Int) else -1)) ∧ w' = wr.drewN q) := fun q =>
        ib_any a (cl - F0) sg SB.out c hc _ fun i hi => by
          rw [ha (by omega), Go.WideShapes.add_plain, Nat.add_assoc, HCL.out (F0 + i) (by omega) q, SG.out i (by omega)]
      have HSL : Hid (sg.length = F1 - F0) := SL
      have HS1 : Hid (s1 = s + 1) := hs1e
      by_cases hi : sg.idxOf c < sg.length
      · rw [if_pos hi] at HE2
        simp only [if_pos hi] at CI
        have hi1 : sg.idxOf c < 1000000 := by omega
        have HI : Hid (sg.idxOf c < sg.length) := hi
        revert HE2 CI hi1
        generalize sg.idxOf c = i
        intro HE2 CI hi1
        clear SL hs1e ha hi HCL SG SB
        go_wp2_with fail
        go_quiet ((go_at_call 78; exact Calls.quiet_of_same (CI.out _)))
        go_wp2
        go_ret
        exact ⟨by rw [HE2.out]; rfl, q + nq, by rw [HW.out, World.drewN_drewN]⟩
      · rw [if_neg hi] at HE2
        simp only [if_neg hi] at CI
        clear SL hs1e ha hi HCL SG SB
        go_wp2_with fail
        go_quiet ((go_at_call 78; exact Calls.quiet_of_same (CI.out _)))
        go_wp2
        exact ⟨⟨B0, f', q + nq, by rfl, by omega, by omega, HE2, by show _ = _; rw [HW.out, World.drewN_drewN]⟩, by simp only [intOf]; omega⟩
end Go.Proofs.Ytceaklefdahfkab
