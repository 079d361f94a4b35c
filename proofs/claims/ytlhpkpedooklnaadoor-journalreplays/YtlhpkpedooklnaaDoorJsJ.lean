/- JournalReplays: the document's read. -/
import Derived.Test.YtlhpkpedooklnaaDoorJsI
namespace Go.Proofs.YtlhpkpedooklnaaDoor
open Go.RowKit
open JM
structure Bd (s : St) (q : Nat) : Prop where
  b : s.base.length ≤ q
  t : s.batches.length ≤ q
  p : s.pending.length ≤ q
  f : s.first ≤ 4611686018427387904
  ok : Sok s
theorem bd_step {l : List Nat} {s s' : St} {pos p' : Nat} (h : s.step crcN l pos = .got (s', p')) (hb : Bd s pos) : Bd s' p' := by
  have hn := step_next h
  cases hh : s.headed with
  | false =>
    rw [step_head hh] at h
    cases hR : recd crcN s.ok (l.drop pos) with
    | bad => rw [hR] at h; cases h
    | torn => rw [hR] at h; cases h
    | got r =>
      rw [hR] at h
      dsimp only at h
      split at h
      · rename_i hc
        injection h with h
        injection h with h1 h2
        subst h1
        exact ⟨Nat.le_trans hb.b (by omega), Nat.le_trans hb.t (by omega), Nat.le_trans hb.p (by omega), hc.2, hb.ok.1, fun q => (by cases q)⟩
      · cases h
  | true =>
    cases hl : s.live with
    | false =>
      rw [step_base hh hl] at h
      cases hR : recd crcN s.ok (l.drop pos) with
      | bad => rw [hR] at h; cases h
      | torn => rw [hR] at h; cases h
      | got r =>
        rw [hR] at h
        dsimp only at h
        injection h with h
        injection h with h1 h2
        subst h1
        have hb1 := hb.b
        split
        · exact ⟨by show (s.base ++ [r.body]).length ≤ _; simp; omega, Nat.le_trans hb.t (by omega), Nat.le_trans hb.p (by omega), hb.f, hb.ok.1, fun q => hl⟩
        · exact ⟨Nat.le_trans hb.b (by omega), Nat.le_trans hb.t (by omega), Nat.le_trans hb.p (by omega), hb.f, ⟨fun q => (by cases q), fun q => (by rw [show s.headed = true from hh] at q; cases q)⟩⟩
    | true =>
      rw [step_batch hh hl] at h
      cases hR : recd crcN s.ok (l.drop pos) with
      | bad => rw [hR] at h; cases h
      | torn => rw [hR] at h; cases h
      | got r =>
        rw [hR] at h
        dsimp only at h
        split at h
        · injection h with h
          injection h with h1 h2
          subst h1
          have hb1 := hb.p
          exact ⟨Nat.le_trans hb.b (by omega), Nat.le_trans hb.t (by omega), by show (s.pending ++ [r.body]).length ≤ _; simp; omega, hb.f, ⟨fun q => (by rw [show s.live = true from hl] at q; cases q), fun q => (by rw [show s.headed = true from hh] at q; cases q)⟩⟩
        · split at h
          · injection h with h
            injection h with h1 h2
            subst h1
            have hb1 := hb.t
            exact ⟨Nat.le_trans hb.b (by omega), by show (s.batches ++ [s.pending]).length ≤ _; simp; omega, Nat.zero_le _, hb.f, ⟨fun q => (by rw [show s.live = true from hl] at q; cases q), fun q => (by rw [show s.headed = true from hh] at q; cases q)⟩⟩
          · cases h
theorem sizeTd : (Tryd.prog.info? 45).map (·.size) = some 8 := by kernel_rfl
def ldTd (p : Value) : Sem Value := Instr.loadAt 45 p
theorem toLdTd (p : Value) : Instr.loadAt 45 p = ldTd p := rfl
def stTd (p v : Value) : Sem Unit := Instr.storeAt 45 p v
theorem toStTd (p v : Value) : Instr.storeAt 45 p v = stTd p v := rfl
theorem ld_Td (w : World) (g o : Nat) (c : Array Value) (hc : c.size = 8) (h : w.rangeAt g o c.toList) : (ldTd (.pointer (some ⟨g, o, none⟩))).run Tryd.prog w = .ok (.agg c) w := by
  have := run_loadAt_mid (P := Tryd.prog) w g o 45 c.toList _ h Tryd.underlying45 rfl (by rw [sizeTd]; simp [hc])
  simpa [ldTd] using this
theorem st_TdR (w : World) (g : Nat) (C D : Array Value) (hC : C.size = 8) (hD : D.size = 8) (h1 : D.all (·.oneCell') = true) (hg : w.heap[g]? = some (.cells C 45 (0, 0))) : (stTd (.pointer (some ⟨g, 0, none⟩)) (.agg D)).run Tryd.prog w = .ok () (w.setRow g D) := by
  unfold stTd
  simp only [Instr.storeAt, Instr.sureAddr, Sem.run_bind, Sem.run_pure, Result.andThen_ok, run_storeVar_row w g 45 45 C D hg (by rw [sizeTd, hD]) (by rw [hD, hC]) h1]
theorem results_Td {fn : Func} {p : Tmp} (h : fn.results = #[.cell p 45]) (tmps : Array Value) (w : World) (g : Nat) (C : Array Value) (hC : C.size = 8)
    (hp : tmps.getD p undef = .pointer (some ⟨g, 0, none⟩)) (hg : w.heap[g]? = some (.cells C 45 (0, 0))) :
    (results fn tmps).run Tryd.prog w = .ok (.agg C) w := by
  have hp' : tmps[p]?.getD undef = .pointer (some ⟨g, 0, none⟩) := by simpa using hp
  simp [results, h, hp', asAddr, run_loadVar_row w g 45 45 C (0, 0) _ hg Tryd.underlying45 rfl (by rw [sizeTd, hC])]
def tdA (s : St) (tb tt : Value) (stt pl : Nat) : Array Value := #[.bool s.live, .int .i64 (s.good : Int), .int .i64 (s.gen : Int), .int .i64 (s.first : Int), tb, tt, .int .i64 (stt : Int), .int .i64 (pl : Int)]
theorem td_range {w : World} {g : Nat} {s : St} {tb tt tp : Value} {stt pl : Nat} (h : w.heap[g]? = some (.cells (rgA s tb tt tp stt pl) 56 (0, 0))) : w.rangeAt g 0 (tdA s tb tt stt pl).toList := by
  have := World.rangeAt_of_block h 0 8
  simpa [rgA, tdA] using this
/-- What is known of a file that the document has read. -/
def TdP (B : Nat) (w : World) (l : List Nat) (c : Array Value) : Prop := ∃ (ab at_ : Option Addr) (cb ct stt pl : Nat), c = tdA (file crcN l).1 (.slice ab (file crcN l).1.base.length cb) (.slice at_ (file crcN l).1.batches.length ct) stt pl ∧ Ll B w (.slice ab (file crcN l).1.base.length cb) (file crcN l).1.base ∧ Lb B w (.slice at_ (file crcN l).1.batches.length ct) (file crcN l).1.batches ∧
  match (file crcN l).2 with
  | some p => stt = 2 ∧ pl = p
  | none => stt = 0 ∨ stt = 1
theorem TdP.size {B : Nat} {w : World} {l : List Nat} {c : Array Value} (h : TdP B w l c) : c.size = 8 ∧ c.all (·.oneCell') = true := by
  obtain ⟨ab, at_, cb, ct, stt, pl, rfl, _⟩ := h
  exact ⟨rfl, by simp [tdA, Value.oneCell']⟩
theorem al2 (W : World) (a b : Obj) : ((W.alloc a).alloc b).heap[W.heap.size]? = some a ∧ ((W.alloc a).alloc b).heap[W.heap.size + 1]? = some b := ⟨row2 W a b, row2n W a b⟩
/-- What is told is laid down. -/
theorem td_end {W x : World} {l : List Nat} {s : St} {ab at_ : Option Addr} {cb ct stt pl : Nat} {tp : Value} {C : Array Value} (hC : C.size = 8) (hg : x.heap[W.heap.size + 1]? = some (.cells (rgA s (.slice ab s.base.length cb) (.slice at_ s.batches.length ct) tp stt pl) 56 (0, 0))) (h0 : x.heap[W.heap.size]? = some (.cells C 45 (0, 0)))
    (hb : Below W.heap.size W x) (hl : Ll (W.heap.size + 1 + 1) x (.slice ab s.base.length cb) s.base) (ht : Lb (W.heap.size + 1 + 1) x (.slice at_ s.batches.length ct) s.batches) (R : Option Nat) (hR : match R with
      | some p => stt = 2 ∧ pl = p
      | none => stt = 0 ∨ stt = 1) (hf : file crcN l = (s, R)) :
    (ldTd (.pointer (some ⟨W.heap.size + 1, 0, none⟩))).run Tryd.prog x = .ok (.agg (tdA s (.slice ab s.base.length cb) (.slice at_ s.batches.length ct) stt pl)) x ∧
    (stTd (.pointer (some ⟨W.heap.size, 0, none⟩)) (.agg (tdA s (.slice ab s.base.length cb) (.slice at_ s.batches.length ct) stt pl))).run Tryd.prog x = .ok () (x.setRow W.heap.size (tdA s (.slice ab s.base.length cb) (.slice at_ s.batches.length ct) stt pl)) ∧
    (x.setRow W.heap.size (tdA s (.slice ab s.base.length cb) (.slice at_ s.batches.length ct) stt pl)).heap[W.heap.size]? = some (.cells (tdA s (.slice ab s.base.length cb) (.slice at_ s.batches.length ct) stt pl) 45 (0, 0)) ∧
    Below W.heap.size W (x.setRow W.heap.size (tdA s (.slice ab s.base.length cb) (.slice at_ s.batches.length ct) stt pl)) ∧
    TdP W.heap.size (x.setRow W.heap.size (tdA s (.slice ab s.base.length cb) (.slice at_ s.batches.length ct) stt pl)) l (tdA s (.slice ab s.base.length cb) (.slice at_ s.batches.length ct) stt pl) := by
  refine ⟨ld_Td x _ 0 _ rfl (td_range hg), st_TdR x _ C _ hC rfl (by simp [tdA, Value.oneCell']) h0, setRow_heap _ _ _ _ _ _ h0, ⟨hb.os, hb.tape, hb.output, by rw [size_setRow]; exact hb.size, fun k hk => (setRow_other _ _ _ _ (by omega)).trans (hb.block k hk)⟩, ?_⟩
  have hst : ∀ T, Stay (W.heap.size + 1 + 1) T x (x.setRow W.heap.size (tdA s (.slice ab s.base.length cb) (.slice at_ s.batches.length ct) stt pl)) := fun T k _ _ hk _ _ => setRow_other _ _ _ _ (by omega)
  refine ⟨ab, at_, cb, ct, stt, pl, ?_⟩
  rw [hf]
  exact ⟨rfl, (hl.keep (hst _)).mono (by omega), (ht.keep (hst _)).mono (by omega), hR⟩
attribute [local go_sem ↓] toLdTd toStTd in
set_option maxRecDepth 100000 in
set_option maxHeartbeats 3200000 in
theorem readR_any (W : World) {cD : Nat} {oD : Option Addr} {l : List Nat} (hD : Bl W (.slice oD l.length cD) l) (hlim : l.length ≤ 99999999) :
    Calls Tryd.prog 12 #[.slice oD l.length cD] W fun e w' => Below W.heap.size W w' ∧ ∃ c, e = .returned (.agg c) ∧ TdP W.heap.size w' l c := by
  obtain ⟨V, hV⟩ : ∃ V, (W.alloc (.cells #[.bool false, .int .i64 0, .int .i64 0, .int .i64 0, .slice none 0 0, .slice none 0 0, .int .i64 0, .int .i64 0] 45)).alloc (.cells #[.bool false, .int .i64 0, .int .i64 0, .int .i64 0, .slice none 0 0, .slice none 0 0, .int .i64 0, .int .i64 0, .bool false, .slice none 0 0] 56) = V := ⟨_, rfl⟩
  have vb : Below W.heap.size W V := by rw [← hV]; exact below2 _ _ _
  have vs : V.heap.size = W.heap.size + 1 + 1 := by rw [← hV]; simp
  have v0 : V.heap[W.heap.size]? = some (.cells (tdA St.new (.slice none 0 0) (.slice none 0 0) 0 0) 45 (0, 0)) := by rw [← hV]; exact (al2 W _ _).1
  have v1 : V.heap[W.heap.size + 1]? = some (.cells (rgA St.new (.slice none 0 0) (.slice none 0 0) (.slice none 0 0) 0 0) 56 (0, 0)) := by rw [← hV]; exact (al2 W _ _).2
  have hS0 : RdS (W.heap.size + 1 + 1) (W.heap.size + 1) V St.new := ⟨none, none, none, 0, 0, 0, W.heap.size + 1 + 1, v1, Nat.le_refl _, by omega, fun w' _ => ⟨Ll.nil _ _, Lb.nil _ _⟩, Ll.nil _ _, fun _ => ⟨rfl, rfl⟩, fun _ => ⟨rfl, rfl⟩⟩
  have hDV : ∀ w, Bu (W.heap.size + 1 + 1) (W.heap.size + 1) V w → Bl w (.slice oD l.length cD) l := fun w hu => hD.keep (by have := hu.size; omega) (fun j hj => (hu.block j (by omega) (by omega)).trans (vb.block j hj))
  have HV := mkHid (And.intro hS0 (And.intro hDV (And.intro vb (And.intro vs v0))))
  clear hS0 hDV vb vs v0 v1 hD
  go_enter Tryd.func12, Tryd.ntmps12
  go_wp2_with fail
  clear hV
  go_loopw [4] (fun qv wr => ∃ (q : Nat) (s : St), qv = .int .i64 (q : Int) ∧ Hid (q ≤ l.length ∧ RdS (W.heap.size + 1 + 1) (W.heap.size + 1) wr s ∧ Bu (W.heap.size + 1 + 1) (W.heap.size + 1) V wr ∧ from_ crcN l St.new 0 = from_ crcN l s q ∧ Bd s q)) (fun qv _ => l.length - (intOf qv).toNat)
  case atStart => exact ⟨0, St.new, rfl, Nat.zero_le _, HV.out.1, Bu.refl _ _ _, rfl, by simp [St.new], by simp [St.new], by simp [St.new], by simp [St.new], fun _ => ⟨rfl, rfl⟩, fun _ => rfl⟩
  case round =>
    obtain ⟨q, s, rfl, HI⟩ := hrel
    by_cases hlt : q < l.length
    · have hlt2 : (q : Int) < (l.length : Int) := by omega
      have hw : W.heap.size + 1 + 1 ≤ wr.heap.size := by have := HI.out.2.2.1.size; have := HV.out.2.2.2.1; omega
      have hd := HI.out.2.2.2.2
      have C := one_any (W.heap.size + 1 + 1) (W.heap.size + 1) wr s HI.out.2.1 (by omega) hw (fun w hu => HV.out.2.1 w (HI.out.2.2.1.trans hu)) hlt hlim hd.ok (by have := hd.b; omega) (by have := hd.t; omega) (by have := hd.p; omega) hd.f
      replace hd := mkHid hd
      go_wp2_with fail
      refine C.mono ?_
      rintro e w ⟨hu, hm⟩
      clear C
      cases hR : s.step crcN l q with
      | bad =>
          rw [hR] at hm
          obtain ⟨rfl, hS⟩ := hm
          have hf : file crcN l = (s, (some q)) := HI.out.2.2.2.1.trans (from_bad hlt hR)
          obtain ⟨ab, at_, ap, cb, ct, cp, P, hr, hBP, hPW, hfx, hp, hpn, hbn⟩ := hS
          have c6 : w.cell? ⟨W.heap.size + 1, 6, none⟩ = some (.int .i64 0) := (cell_of_row _ _ _ _ _ _ hr).trans rfl
          have f6 : w.frozen? ⟨W.heap.size + 1, 6, none⟩ = false := frozen_of_row _ _ _ _ _ hr
          obtain ⟨Y1, hY1⟩ : ∃ Y, w.setCell ⟨W.heap.size + 1, 6, none⟩ (.int .i64 2) = Y := ⟨_, rfl⟩
          have y1 := heap_setCell_same w (W.heap.size + 1) 6 _ _ (.int .i64 2) hr
          rw [hY1] at y1
          have c7 : Y1.cell? ⟨W.heap.size + 1, 7, none⟩ = some (.int .i64 0) := (cell_of_row _ _ _ _ _ _ y1).trans rfl
          have f7 : Y1.frozen? ⟨W.heap.size + 1, 7, none⟩ = false := frozen_of_row _ _ _ _ _ y1
          obtain ⟨Y2, hY2⟩ : ∃ Y, Y1.setCell ⟨W.heap.size + 1, 7, none⟩ (.int .i64 (q : Int)) = Y := ⟨_, rfl⟩
          have y2 := heap_setCell_same Y1 (W.heap.size + 1) 7 _ _ (.int .i64 (q : Int)) y1
          rw [hY2] at y2
          have hb : But (W.heap.size + 1) w Y2 := by rw [← hY2, ← hY1]; exact ((But.refl _ w).set 6 _).set 7 _
          have hbt := hfx w (fun _ _ _ => rfl)
          have huV := HI.out.2.2.1.trans hu
          have hsz : W.heap.size + 1 + 1 ≤ w.heap.size := by have := huV.size; have := HV.out.2.2.2.1; omega
          have E := td_end (W := W) (x := Y2) (l := l) (s := s) (stt := 2) (pl := q) (C := tdA St.new (.slice none 0 0) (.slice none 0 0) 0 0) rfl (y2.trans rfl) ((hb.block _ (by omega) (by omega)).trans ((huV.block _ (by omega) (by omega)).trans HV.out.2.2.2.2)) ⟨hb.os.trans (huV.os.trans HV.out.2.2.1.os), hb.tape.trans (huV.tape.trans HV.out.2.2.1.tape), hb.output.trans (huV.output.trans HV.out.2.2.1.output), Nat.le_trans HV.out.2.2.1.size (Nat.le_trans huV.size hb.size), fun k hk => (hb.block k (by omega) (by omega)).trans ((huV.block k (by omega) (by omega)).trans (HV.out.2.2.1.block k hk))⟩ (hbt.1.keep (stay_but hb (by omega))) (hbt.2.keep (stay_but hb (by omega))) (some q) ⟨rfl, rfl⟩ hf
          obtain ⟨E1, E2, E3, E4, E5⟩ := E
          have HE := mkHid (And.intro E3 (And.intro E4 E5))
          generalize tdA s (.slice ab s.base.length cb) (.slice at_ s.batches.length ct) 2 q = tc at *
          obtain ⟨Z, hZ⟩ : ∃ Z, Y2.setRow W.heap.size tc = Z := ⟨_, rfl⟩
          rw [hZ] at E2 HE
          clear E3 E4 E5 hb y1 y2 hr hfx hp hpn hbn hf hbt huV hu hZ
          dsimp only
          go_wp2_with fail
          refine bodyPost_ret (results_Td rfl _ _ W.heap.size tc HE.out.2.2.size.1 rfl HE.out.1) rfl ?_
          exact ⟨HE.out.2.1, _, rfl, HE.out.2.2⟩
      | torn =>
          rw [hR] at hm
          obtain ⟨rfl, hS⟩ := hm
          have hf : file crcN l = (s, none) := HI.out.2.2.2.1.trans (from_torn hR)
          obtain ⟨ab, at_, ap, cb, ct, cp, P, hr, hBP, hPW, hfx, hp, hpn, hbn⟩ := hS
          have c6 : w.cell? ⟨W.heap.size + 1, 6, none⟩ = some (.int .i64 0) := (cell_of_row _ _ _ _ _ _ hr).trans rfl
          have f6 : w.frozen? ⟨W.heap.size + 1, 6, none⟩ = false := frozen_of_row _ _ _ _ _ hr
          obtain ⟨Y1, hY1⟩ : ∃ Y, w.setCell ⟨W.heap.size + 1, 6, none⟩ (.int .i64 1) = Y := ⟨_, rfl⟩
          have y1 := heap_setCell_same w (W.heap.size + 1) 6 _ _ (.int .i64 1) hr
          rw [hY1] at y1
          have c7 : Y1.cell? ⟨W.heap.size + 1, 7, none⟩ = some (.int .i64 0) := (cell_of_row _ _ _ _ _ _ y1).trans rfl
          have f7 : Y1.frozen? ⟨W.heap.size + 1, 7, none⟩ = false := frozen_of_row _ _ _ _ _ y1
          obtain ⟨Y2, hY2⟩ : ∃ Y, Y1.setCell ⟨W.heap.size + 1, 7, none⟩ (.int .i64 (q : Int)) = Y := ⟨_, rfl⟩
          have y2 := heap_setCell_same Y1 (W.heap.size + 1) 7 _ _ (.int .i64 (q : Int)) y1
          rw [hY2] at y2
          have hb : But (W.heap.size + 1) w Y2 := by rw [← hY2, ← hY1]; exact ((But.refl _ w).set 6 _).set 7 _
          have hbt := hfx w (fun _ _ _ => rfl)
          have huV := HI.out.2.2.1.trans hu
          have hsz : W.heap.size + 1 + 1 ≤ w.heap.size := by have := huV.size; have := HV.out.2.2.2.1; omega
          have E := td_end (W := W) (x := Y2) (l := l) (s := s) (stt := 1) (pl := q) (C := tdA St.new (.slice none 0 0) (.slice none 0 0) 0 0) rfl (y2.trans rfl) ((hb.block _ (by omega) (by omega)).trans ((huV.block _ (by omega) (by omega)).trans HV.out.2.2.2.2)) ⟨hb.os.trans (huV.os.trans HV.out.2.2.1.os), hb.tape.trans (huV.tape.trans HV.out.2.2.1.tape), hb.output.trans (huV.output.trans HV.out.2.2.1.output), Nat.le_trans HV.out.2.2.1.size (Nat.le_trans huV.size hb.size), fun k hk => (hb.block k (by omega) (by omega)).trans ((huV.block k (by omega) (by omega)).trans (HV.out.2.2.1.block k hk))⟩ (hbt.1.keep (stay_but hb (by omega))) (hbt.2.keep (stay_but hb (by omega))) none (.inr rfl) hf
          obtain ⟨E1, E2, E3, E4, E5⟩ := E
          have HE := mkHid (And.intro E3 (And.intro E4 E5))
          generalize tdA s (.slice ab s.base.length cb) (.slice at_ s.batches.length ct) 1 q = tc at *
          obtain ⟨Z, hZ⟩ : ∃ Z, Y2.setRow W.heap.size tc = Z := ⟨_, rfl⟩
          rw [hZ] at E2 HE
          clear E3 E4 E5 hb y1 y2 hr hfx hp hpn hbn hf hbt huV hu hZ
          dsimp only
          go_wp2_with fail
          refine bodyPost_ret (results_Td rfl _ _ W.heap.size tc HE.out.2.2.size.1 rfl HE.out.1) rfl ?_
          exact ⟨HE.out.2.1, _, rfl, HE.out.2.2⟩
      | got sp =>
          rw [hR] at hm
          obtain ⟨s', p'⟩ := sp
          obtain ⟨rfl, hS⟩ := hm
          have hn := step_next hR
          have HG := mkHid (And.intro hS (And.intro (HI.out.2.2.1.trans hu) (And.intro (HI.out.2.2.2.1.trans (from_step hR)) (And.intro (bd_step hR hd.out) hn))))
          clear hS hu hR hn
          dsimp only
          go_wp2_with fail
          exact ⟨⟨p', s', rfl, HG.out.2.2.2.2.2, HG.out.1, HG.out.2.1, HG.out.2.2.1, HG.out.2.2.2.1⟩, by have := HG.out.2.2.2.2; simp only [intOf]; omega⟩
    · have hlt2 : ¬ (q : Int) < (l.length : Int) := by omega
      have hf : file crcN l = (s, none) := HI.out.2.2.2.1.trans (from_end (by omega))
      obtain ⟨ab, at_, ap, cb, ct, cp, P, hr, hBP, hPW, hfx, hp, hpn, hbn⟩ := HI.out.2.1
      have hbt := hfx wr (fun _ _ _ => rfl)
      have huV := HI.out.2.2.1
      have E := td_end (W := W) (x := wr) (l := l) (s := s) (stt := 0) (pl := 0) (C := tdA St.new (.slice none 0 0) (.slice none 0 0) 0 0) rfl hr ((huV.block _ (by omega) (by omega)).trans HV.out.2.2.2.2) ⟨huV.os.trans HV.out.2.2.1.os, huV.tape.trans HV.out.2.2.1.tape, huV.output.trans HV.out.2.2.1.output, Nat.le_trans HV.out.2.2.1.size huV.size, fun k hk => (huV.block k (by omega) (by omega)).trans (HV.out.2.2.1.block k hk)⟩ hbt.1 hbt.2 none (.inl rfl) hf
      obtain ⟨E1, E2, E3, E4, E5⟩ := E
      have HE := mkHid (And.intro E3 (And.intro E4 E5))
      generalize tdA s (.slice ab s.base.length cb) (.slice at_ s.batches.length ct) 0 0 = tc at *
      obtain ⟨Z, hZ⟩ : ∃ Z, wr.setRow W.heap.size tc = Z := ⟨_, rfl⟩
      rw [hZ] at E2 HE
      clear E3 E4 E5 hr hfx hp hpn hbn hf hbt huV hZ
      go_wp2_with fail
      refine bodyPost_ret (results_Td rfl _ _ W.heap.size tc HE.out.2.2.size.1 rfl HE.out.1) rfl ?_
      exact ⟨HE.out.2.1, _, rfl, HE.out.2.2⟩
end Go.Proofs.YtlhpkpedooklnaaDoor
