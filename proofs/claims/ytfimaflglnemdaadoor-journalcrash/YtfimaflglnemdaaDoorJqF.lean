/- Several texts in one: JuQ, JuR, JuS. -/
import Derived.Test.YtfimaflglnemdaaDoorJqE
/- The journal's rows: the law's sameLists and holds, of what is the same. -/
namespace Go.Proofs.YtfimaflglnemdaaDoor
open Go.RowKit
open JM
set_option maxRecDepth 20000
theorem Ll.get {B : Nat} {w : World} {v : Value} {ls : List (List Nat)} (h : Ll B w v ls) {i : Nat} (hi : i < ls.length) : ∃ (g c : Nat) (x : Value), v = .slice (some ⟨g, 0, none⟩) ls.length c ∧ w.cell? ⟨g, i, none⟩ = some x ∧ Ob B w x ls[i] := by
  obtain ⟨vs, h1, h2⟩ := h
  obtain ⟨x, h3, h4⟩ := h2 i ls[i] (List.getElem?_eq_getElem hi)
  obtain ⟨g, c, h5, h6⟩ := own_get h1 h3
  exact ⟨g, c, x, h5, h6, h4⟩
theorem Lb.get {B : Nat} {w : World} {v : Value} {ls : List (List (List Nat))} (h : Lb B w v ls) {i : Nat} (hi : i < ls.length) : ∃ (g c : Nat) (x : Value), v = .slice (some ⟨g, 0, none⟩) ls.length c ∧ w.cell? ⟨g, i, none⟩ = some x ∧ Ll B w x ls[i] := by
  obtain ⟨vs, h1, h2⟩ := h
  obtain ⟨x, h3, h4⟩ := h2 i ls[i] (List.getElem?_eq_getElem hi)
  obtain ⟨g, c, h5, h6⟩ := own_get h1 h3
  exact ⟨g, c, x, h5, h6, h4⟩
attribute [local go_sem ↓] toCvS in
set_option maxRecDepth 100000 in
set_option maxHeartbeats 3200000 in
theorem sameLists_eq (W : World) {B B' : Nat} {a b : Value} {ls : List (List Nat)} (ha : Ll B W a ls) (hb : Ll B' W b ls) (hlim : ls.length ≤ 1000000000) : Calls Tryd.prog 15 #[a, b] W fun e w' => e = .returned (.bool true) ∧ ∃ m, w' = W.drewN m := by
  obtain ⟨oa, ca, rfl⟩ := ha.sl
  obtain ⟨ob, cb, rfl⟩ := hb.sl
  have HA := mkHid (And.intro ha hb)
  clear ha hb
  go_enter Tryd.func15, Tryd.ntmps15
  go_wp2_with fail
  go_loopw [5] (fun iv wr => ∃ i : Nat, iv = .int .i64 (i : Int) ∧ i ≤ ls.length ∧ Hid (∃ m, wr = W.drewN m)) (fun iv _ => ls.length - (intOf iv).toNat)
  case atStart => exact ⟨0, rfl, Nat.zero_le _, 0, rfl⟩
  case round =>
    obtain ⟨i, rfl, hi, HI⟩ := hrel
    by_cases hlt : i < ls.length
    · have hlt2 : (i : Int) < (ls.length : Int) := by omega
      have hi0 : (0 : Int) ≤ (i : Int) := by omega
      obtain ⟨m0, hm0⟩ := HI.out
      obtain ⟨ga, c, x, e1, c1, o1⟩ := HA.out.1.get hlt
      obtain ⟨gb, c', y, e2, c2, o2⟩ := HA.out.2.get hlt
      injection e1 with e1 el ec
      injection e2 with e2 el2 ec2
      clear el el2
      subst e1 e2 ec ec2
      have hdr : ∀ m, Below W.heap.size W (wr.drewN m) := fun m => by rw [hm0]; exact below_drewN (below_drewN (Below.refl _ _) _) _
      have d1 : ∀ m, (wr.drewN m).cell? ⟨ga, i, none⟩ = some x := fun m => cell_below (hdr m) c1
      have d2 : ∀ m, (wr.drewN m).cell? ⟨gb, i, none⟩ = some y := fun m => cell_below (hdr m) c2
      have q1 : ∀ m, (cvS x).run Tryd.prog (wr.drewN m) = .ok (.string (mkS ls[i])) (wr.drewN m) := fun m => cv_bl (o1.bl.below (hdr m))
      have q2 : ∀ m, (cvS y).run Tryd.prog (wr.drewN m) = .ok (.string (mkS ls[i])) (wr.drewN m) := fun m => cv_bl (o2.bl.below (hdr m))
      obtain ⟨S, hS⟩ : ∃ S, mkS ls[i] = S := ⟨_, rfl⟩
      rw [hS] at q1 q2
      obtain ⟨ox, cx, rfl⟩ := o1.sl
      obtain ⟨oy, cy, rfl⟩ := o2.sl
      obtain ⟨n, hn⟩ : ∃ n, ls[i].length = n := ⟨_, rfl⟩
      rw [hn] at q1 q2 d1 d2
      have HM := mkHid hm0
      clear hm0 hdr o1 o2 c1 c2 hS hn
      go_wp2_with fail
      go_quiet (fail)
      go_wp2_with fail
      exact ⟨⟨i + 1, by simp, by omega, by rw [HM.out, World.drewN_drewN]; exact ⟨_, rfl⟩⟩, by simp only [intOf]; omega⟩
    · have hlt2 : ¬ (i : Int) < (ls.length : Int) := by omega
      go_wp2_with fail
      go_ret
      exact ⟨rfl, HI.out⟩
def bkA (u0 u1 : Value) (last : Nat) : Array Value := #[u0, u1, .int .i64 (last : Int)]
set_option maxRecDepth 100000 in
set_option maxHeartbeats 3200000 in
theorem holds_eq (W : World) {B B' i good gen first last : Nat} {u0 u1 t4 t5 : Value} {bl : List (List Nat)} {bt : List (List (List Nat))} (h4 : Ll B W u0 bl) (h5 : Lb B W u1 bt) (k4 : Ll B' W t4 bl) (k5 : Lb B' W t5 bt) (hl4 : bl.length ≤ 1000000000) (hl5 : bt.length ≤ 1000000000) (hl : ∀ x ∈ bt, x.length ≤ 1000000000) (hf : 1 ≤ first) (hf2 : first ≤ 1000000000) (hlast : first - 1 + bt.length = last) :
    Calls Tryd.prog 38 #[.agg (bkA u0 u1 last), .agg (styA i good gen first t4 t5)] W fun e w' => e = .returned (.bool true) ∧ Below W.heap.size W w' := by
  obtain ⟨o4, c4, rfl⟩ := h4.sl
  obtain ⟨o5, c5, rfl⟩ := h5.sl
  obtain ⟨p4, d4, rfl⟩ := k4.sl
  obtain ⟨p5, d5, rfl⟩ := k5.sl
  obtain ⟨V, hV⟩ : ∃ V, (W.alloc (.cells #[.slice o4 bl.length c4, .slice o5 bt.length c5, .int .i64 (last : Int)] 30)).alloc (.cells #[.int .i64 (i : Int), .int .i64 (good : Int), .int .i64 (gen : Int), .int .i64 (first : Int), .slice p4 bl.length d4, .slice p5 bt.length d5] 47) = V := ⟨_, rfl⟩
  have vb : Below W.heap.size W V := by rw [← hV]; exact below2 _ _ _
  have r0 := row2 W (.cells #[.slice o4 bl.length c4, .slice o5 bt.length c5, .int .i64 (last : Int)] 30) (.cells #[.int .i64 (i : Int), .int .i64 (good : Int), .int .i64 (gen : Int), .int .i64 (first : Int), .slice p4 bl.length d4, .slice p5 bt.length d5] 47)
  have r1 := row2n W (.cells #[.slice o4 bl.length c4, .slice o5 bt.length c5, .int .i64 (last : Int)] 30) (.cells #[.int .i64 (i : Int), .int .i64 (good : Int), .int .i64 (gen : Int), .int .i64 (first : Int), .slice p4 bl.length d4, .slice p5 bt.length d5] 47)
  rw [hV] at r0 r1
  have a0 : V.cell? ⟨W.heap.size, 0, none⟩ = some (.slice o4 bl.length c4) := (cell_of_row _ _ _ _ _ _ r0).trans rfl
  have a1 : V.cell? ⟨W.heap.size, 1, none⟩ = some (.slice o5 bt.length c5) := (cell_of_row _ _ _ _ _ _ r0).trans rfl
  have a2 : V.cell? ⟨W.heap.size, 2, none⟩ = some (.int .i64 (last : Int)) := (cell_of_row _ _ _ _ _ _ r0).trans rfl
  have e0 : V.cell? ⟨W.heap.size + 1, 0, none⟩ = some (.int .i64 (i : Int)) := (cell_of_row _ _ _ _ _ _ r1).trans rfl
  have e3 : V.cell? ⟨W.heap.size + 1, 3, none⟩ = some (.int .i64 (first : Int)) := (cell_of_row _ _ _ _ _ _ r1).trans rfl
  have e4 : V.cell? ⟨W.heap.size + 1, 4, none⟩ = some (.slice p4 bl.length d4) := (cell_of_row _ _ _ _ _ _ r1).trans rfl
  have e5 : V.cell? ⟨W.heap.size + 1, 5, none⟩ = some (.slice p5 bt.length d5) := (cell_of_row _ _ _ _ _ _ r1).trans rfl
  have v4 := h4.keep (stay_below vb)
  have v5 := h5.keep (stay_below vb)
  have x4 := k4.keep (stay_below vb)
  have x5 := k5.keep (stay_below vb)
  have CB := sameLists_eq V v4 x4 hl4
  have HV := mkHid (And.intro v5 (And.intro x5 (And.intro vb hl)))
  have hi1 : ¬ (i : Int) < 0 := by omega
  have hq1 : ((first : Int) - 1 + (bt.length : Int) == (last : Int)) = true := by rw [beq_iff_eq]; omega
  unfold bkA styA
  clear h4 h5 k4 k5 r0 r1 v4 v5 x4 x5 vb hl
  go_enter Tryd.func38, Tryd.ntmps38
  go_upto_region 1 with fail
  try rw [hV]
  clear hV
  go_wp2_with fail
  refine CB.mono ?_
  rintro e w ⟨rfl, m1, hm1⟩
  dsimp only
  clear CB
  have wb1 : Below V.heap.size V w := by rw [hm1]; exact below_drewN (Below.refl _ _) _
  have a1w := cell_below wb1 a1
  have a2w := cell_below wb1 a2
  have e3w := cell_below wb1 e3
  have e5w := cell_below wb1 e5
  clear wb1
  replace hm1 := mkHid hm1
  go_wp2_with fail
  go_loopw [5] (fun iv wr => ∃ i : Nat, iv = .int .i64 (i : Int) ∧ i ≤ bt.length ∧ Hid (∃ m, wr = V.drewN m)) (fun iv _ => bt.length - (intOf iv).toNat)
  case atStart => exact ⟨0, rfl, Nat.zero_le _, m1, hm1.out⟩
  case round =>
    obtain ⟨i, rfl, hi, HI⟩ := hrel
    obtain ⟨m0, hm0⟩ := HI.out
    have wb : Below V.heap.size V wr := by rw [hm0]; exact below_drewN (Below.refl _ _) _
    have b5 := cell_below wb a1
    have f5 := cell_below wb e5
    by_cases hlt : i < bt.length
    · have hlt2 : (i : Int) < (bt.length : Int) := by omega
      have hi0 : (0 : Int) ≤ (i : Int) := by omega
      obtain ⟨ga, c, x, q1, c1, o1⟩ := HV.out.1.get hlt
      obtain ⟨gb, c', y, q2, c2, o2⟩ := HV.out.2.1.get hlt
      injection q1 with q1 el ec
      injection q2 with q2 el2 ec2
      clear el el2
      subst q1 q2 ec ec2
      have CL := mkHid (fun m => sameLists_eq (wr.drewN m) (o1.keep (stay_below (below_drewN wb m))) (o2.keep (stay_below (below_drewN wb m))) (HV.out.2.2.2 _ (List.getElem_mem hlt)))
      have g1 := cell_below wb c1
      have g2 := cell_below wb c2
      obtain ⟨ox, cx, rfl⟩ := o1.sl
      obtain ⟨oy, cy, rfl⟩ := o2.sl
      obtain ⟨n, hn⟩ : ∃ n, bt[i].length = n := ⟨_, rfl⟩
      rw [hn] at CL g1 g2
      have HM := mkHid hm0
      clear o1 o2 hn c1 c2 wb hm0
      go_wp2_with fail
      go_quiet ((go_at_call 15; exact Calls.quiet_of (CL.out _)))
      go_wp2_with fail
      exact ⟨⟨i + 1, by simp, by omega, by rw [HM.out, World.drewN_drewN]; exact ⟨_, rfl⟩⟩, by simp only [intOf]; omega⟩
    · have hlt2 : ¬ (i : Int) < (bt.length : Int) := by omega
      have HB := mkHid (HV.out.2.2.1.trans (wb.mono HV.out.2.2.1.size))
      clear hm0
      go_wp2_with fail
      go_ret
      exact ⟨rfl, HB.out⟩
end Go.Proofs.YtfimaflglnemdaaDoor

/- The journal's rows: the law's does, where there is room: a compaction. -/
namespace Go.Proofs.YtfimaflglnemdaaDoor
open Go.RowKit
open JM
set_option maxRecDepth 20000
theorem sizeBk : (Tryd.prog.info? 30).map (·.size) = some 3 := by kernel_rfl
def stBk (p v : Value) : Sem Unit := Instr.storeAt 30 p v
theorem toStBk (p v : Value) : Instr.storeAt 30 p v = stBk p v := rfl
def ldBk (p : Value) : Sem Value := Instr.loadAt 30 p
theorem toLdBk (p : Value) : Instr.loadAt 30 p = ldBk p := rfl
theorem st_Bk (w : World) (g : Nat) (C D : Array Value) (hC : C.size = 3) (hD : D.size = 3) (h1 : D.all (·.oneCell') = true) (hg : w.heap[g]? = some (.cells C 30 (0, 0))) : (stBk (.pointer (some ⟨g, 0, none⟩)) (.agg D)).run Tryd.prog w = .ok () (w.setRow g D) := by
  unfold stBk
  simp only [Instr.storeAt, Instr.sureAddr, Sem.run_bind, Sem.run_pure, Result.andThen_ok, run_storeVar_row w g 30 30 C D hg (by rw [sizeBk, hD]) (by rw [hD, hC]) h1]
theorem ld_Bk (w : World) (g o : Nat) (c : Array Value) (hc : c.size = 3) (h : w.rangeAt g o c.toList) : (ldBk (.pointer (some ⟨g, o, none⟩))).run Tryd.prog w = .ok (.agg c) w := by
  have := run_loadAt_mid (P := Tryd.prog) w g o 30 c.toList _ h Tryd.underlying30 rfl (by rw [sizeBk]; simp [hc])
  simpa [ldBk] using this
theorem results_Bk {fn : Func} {p u : Tmp} (h : fn.results = #[.cell p 30, .tmp u]) (tmps : Array Value) (w : World) (g : Nat) (C : Array Value) (hC : C.size = 3)
    (hp : tmps.getD p undef = .pointer (some ⟨g, 0, none⟩)) (hg : w.heap[g]? = some (.cells C 30 (0, 0))) :
    (results fn tmps).run Tryd.prog w = .ok (.tuple #[.agg C, tmps.getD u undef]) w := by
  have hp' : tmps[p]?.getD undef = .pointer (some ⟨g, 0, none⟩) := by simpa using hp
  simp [results, h, hp', asAddr, run_loadVar_row w g 30 30 C (0, 0) _ hg Tryd.underlying30 rfl (by rw [sizeBk, hC])]
theorem sho_len (ls : List (List Nat)) : (sho ls).length ≤ 20 := by simp [sho]; omega
theorem sho_mem {ls : List (List Nat)} {x : List Nat} (h : x ∈ sho ls) : ∃ y ∈ ls, x = y.take 2000 := by
  obtain ⟨y, h1, rfl⟩ := List.mem_map.1 h
  exact ⟨y, List.mem_of_mem_take h1, rfl⟩
theorem sizes_le {N : Nat} : ∀ {ls : List (List Nat)}, (∀ x ∈ ls, x.length ≤ N) → sizes ls ≤ ls.length * (22 + N)
  | [], _ => by simp [sizes]
  | b :: r, h => by
    have h1 := h b (List.mem_cons_self ..)
    have h2 := sizes_le (ls := r) (fun x hx => h x (List.mem_cons_of_mem _ hx))
    rw [sizes, List.length_cons, Nat.add_mul, Nat.one_mul]
    omega
theorem sho_size (ls : List (List Nat)) : sizes (sho ls) ≤ 40440 := by
  have h1 := sizes_le (N := 2000) (ls := sho ls) (fun x hx => by obtain ⟨y, _, rfl⟩ := sho_mem hx; rw [List.length_take]; omega)
  have h2 := sho_len ls
  have := Nat.mul_le_mul_right (22 + 2000) h2
  omega
theorem sho_gl {ls : List (List Nat)} (h : ∀ x ∈ ls, Byt x) : Gl (sho ls) := ⟨by have := sho_len ls; omega, fun x hx => by
  obtain ⟨y, h1, rfl⟩ := sho_mem hx
  exact ⟨by rw [List.length_take]; omega, fun z hz => h y h1 z (List.mem_of_mem_take hz)⟩⟩
theorem Lr.byt {W : World} {v : Value} {ls : List (List Nat)} (h : Lr W v ls) : ∀ x ∈ ls, Byt x := fun x hx => by
  obtain ⟨i, hi, rfl⟩ := List.getElem_of_mem hx
  obtain ⟨oa, cap, -, -, -, h4⟩ := h
  obtain ⟨g, o, y, -, -, b1⟩ := h4 i hi
  obtain ⟨_, _, _, _, _, hb, _⟩ := b1
  exact hb
namespace Dev
theorem Fo.setRow {lo k : Nat} {A B : World} (h : Fo lo A B) (hk : A.heap.size ≤ k) (D : Array Value) : Fo lo A (B.setRow k D) :=
  ⟨h.os, h.tape, h.output, by rw [size_setRow]; exact h.size, fun i h1 h2 => (setRow_other _ _ _ _ (by omega)).trans (h.low i h1 h2), fun i c t hc t1 t2 t3 => (setRow_other _ _ _ _ (by have := (Array.getElem?_eq_some_iff.1 hc).1; omega)).trans (h.oth i c t hc t1 t2 t3), fun i o hi ho => (setRow_other _ _ _ _ (by have := (Array.getElem?_eq_some_iff.1 hi).1; omega)).trans (h.nc i o hi ho)⟩
/-- A journal, by what stands in it: its base and its batches are in the live file, the other one is empty. -/
structure Js [Inhabited HoleT] (lo : Nat) (W : World) (j v lim live gen first n : Nat) (base : List (List Nat)) (bs : List (List (List Nat))) : Prop where
  jn : ∃ x, Jn lo W j v lim live gen (first - 1 + bs.length) n x ∧ (fl x live).1 = journalw gen first base bs ∧ (fl x (1 - live)).1 = []
  gb : Gl base
  gs : ∀ b ∈ bs, Gl b
  g1 : 1 ≤ gen
  g2 : gen ≤ 1000
  f1 : 1 ≤ first
  f2 : first + bs.length ≤ 1000
  fit : (journalw gen first base bs).length ≤ lim
  lim1 : lim ≤ 67108864
  lv1 : live ≤ 1
  tc : Tc W
  c0 : 0 < lo
  big : n ≤ 1000
theorem Js.hlo [Inhabited HoleT] {lo j v lim live gen first n : Nat} {W : World} {base : List (List Nat)} {bs : List (List (List Nat))} (h : Js lo W j v lim live gen first n base bs) : lo ≤ W.heap.size := let ⟨_, h1, _, _⟩ := h.jn; h1.hlo
theorem Js.below [Inhabited HoleT] {lo j v lim live gen first n : Nat} {W W' : World} {base : List (List Nat)} {bs : List (List (List Nat))} (h : Js lo W j v lim live gen first n base bs) (hb : Below W.heap.size W W') : Js lo W' j v lim live gen first n base bs := by
  obtain ⟨x, h1, h2, h3⟩ := h.jn
  exact ⟨⟨x, h1.below hb, h2, h3⟩, h.gb, h.gs, h.g1, h.g2, h.f1, h.f2, h.fit, h.lim1, h.lv1, h.tc.below hb h.tc.sz, h.c0, h.big⟩
theorem Js.room [Inhabited HoleT] {lo j v lim live gen first n : Nat} {W : World} {base : List (List Nat)} {bs : List (List (List Nat))} (h : Js lo W j v lim live gen first n base bs) :
    Calls Tryd.prog 21 #[.pointer (some ⟨j, 0, none⟩)] W fun e w' => e = .returned (.int .i64 ((lim - (journalw gen first base bs).length : Nat) : Int)) ∧ Below W.heap.size W w' := by
  obtain ⟨x, h1, h2, h3⟩ := h.jn
  have := Room_any h1 (by have := h.lim1; omega) (by rw [h2]; have := h.fit; have := h.lim1; omega)
  rwa [h2] at this
theorem batchesw_snoc : ∀ (bs : List (List (List Nat))) (n : Nat) (b : List (List Nat)), batchesw n (bs ++ [b]) = batchesw n bs ++ batchw (n + bs.length) b
  | [], n, b => by simp [batchesw]
  | x :: r, n, b => by
    rw [List.cons_append, batchesw, batchesw_snoc r, batchesw, List.append_assoc, List.length_cons]
    congr 3
    omega
theorem Js.commit [Inhabited HoleT] {lo j v lim live gen first n B : Nat} {W : World} {base : List (List Nat)} {bs : List (List (List Nat))} {u : Value} {ls : List (List Nat)} (h : Js lo W j v lim live gen first n base bs) (hu : Ll B W u ls) (hg : Gl ls) (hs : sizes ls < 70000000) (hfit : (journalw gen first base bs).length + (26 + sizes ls) ≤ lim) (hn : n + 2 ≤ 1000) (hf : first + bs.length + 1 ≤ 1000) :
    Calls Tryd.prog 16 #[.pointer (some ⟨j, 0, none⟩), u] W fun e w' => e = .returned (.tuple #[.int .i64 ((first - 1 + (bs ++ [ls]).length : Nat) : Int), .int .i64 0]) ∧ Js lo w' j v lim live gen first (n + 2) base (bs ++ [ls]) ∧ Fo lo W w' := by
  obtain ⟨x, h1, h2, h3⟩ := h.jn
  have hf1 := h.f1
  have hlim := h.lim1
  have hw : journalw gen first base (bs ++ [ls]) = journalw gen first base bs ++ batchw (first - 1 + bs.length + 1) ls := by
    unfold journalw
    rw [batchesw_snoc, List.append_assoc, show first + bs.length = first - 1 + bs.length + 1 by omega]
  have he : first - 1 + (bs ++ [ls]).length = first - 1 + bs.length + 1 := by simp; omega
  refine (Commit_ok h1 hu hg h.tc h.c0 (by have := h.f2; omega) hs (by rw [h2]; have := h.fit; omega) hlim (by rw [h2]; exact hfit) (by omega)).mono ?_
  rintro e w' ⟨e1, e2, e3⟩
  rw [h2, up_up, ← hw, ← he] at e2
  refine ⟨by rw [e1, he], ⟨⟨_, e2, by rw [fl_same], ?_⟩, h.gb, fun b hb => ?_, h.g1, h.g2, h.f1, by simp; omega, by rw [hw, List.length_append, batchw_len]; exact hfit, hlim, h.lv1, h.tc.below (e3.below h1.hlo) h.c0, h.c0, hn⟩, e3⟩
  · rw [fl_other h.lv1 (by omega) (by have := h.lv1; omega)]
    exact h3
  · rcases List.mem_append.1 hb with q | q
    · exact h.gs b q
    · rw [List.mem_singleton.1 q]; exact hg
theorem Js.compact [Inhabited HoleT] {lo j v lim live gen first n B : Nat} {W : World} {base : List (List Nat)} {bs : List (List (List Nat))} {u : Value} {ls : List (List Nat)} (h : Js lo W j v lim live gen first n base bs) (hu : Ll B W u ls) (hg : Gl ls) (hs : sizes ls < 70000000) (hfit : 52 + sizes ls ≤ lim) (hn : n + 3 ≤ 1000) (hgen : gen + 1 ≤ 1000) :
    Calls Tryd.prog 23 #[.pointer (some ⟨j, 0, none⟩), u] W fun e w' => e = .returned (.int .i64 0) ∧ Js lo w' j v lim (1 - live) (gen + 1) (first + bs.length) (n + 3) ls [] ∧ Fo lo W w' := by
  obtain ⟨x, h1, h2, h3⟩ := h.jn
  have hf1 := h.f1
  have hlv := h.lv1
  have hw : journalw (gen + 1) (first + bs.length) ls [] = basew (gen + 1) (first - 1 + bs.length + 1) ls := by
    unfold journalw
    rw [batchesw, List.append_nil, show first + bs.length = first - 1 + bs.length + 1 by omega]
  refine (Compact_ok (o := 1 - live) h1 (by omega) (by omega) hu hg h.tc h.c0 (by omega) (by have := h.f2; omega) hs h3 h.lim1 hfit (by omega)).mono ?_
  rintro e w' ⟨e1, e2, e3⟩
  have he : first - 1 + bs.length = first + bs.length - 1 + ([] : List (List (List Nat))).length := by simp; omega
  rw [← hw, he] at e2
  refine ⟨e1, ⟨⟨_, e2, ?_, ?_⟩, hg, fun b hb => (by cases hb), by omega, hgen, by omega, by simp; exact h.f2, by rw [journalw_len]; simp [bsizes]; exact hfit, h.lim1, by omega, h.tc.below (e3.below h1.hlo) h.c0, h.c0, hn⟩, e3⟩
  · rw [fl_other hlv (by omega) (by omega), fl_same]
  · rw [show 1 - (1 - live) = live by omega, fl_same]
end Dev
end Go.Proofs.YtfimaflglnemdaaDoor

/- The journal's rows: the law's does, where there is room: a compaction. -/
namespace Go.Proofs.YtfimaflglnemdaaDoor
open Go.RowKit
open JM
set_option maxRecDepth 20000
theorem row3 (W : World) (a b c : Obj) : (((W.alloc a).alloc b).alloc c).heap[W.heap.size]? = some a ∧ (((W.alloc a).alloc b).alloc c).heap[W.heap.size + 1]? = some b ∧ (((W.alloc a).alloc b).alloc c).heap[W.heap.size + 2]? = some c ∧ Below W.heap.size W (((W.alloc a).alloc b).alloc c) := by
  refine ⟨(heap_alloc_old _ _ (h := by simp; omega)).trans (row2 _ _ _), (heap_alloc_old _ _ (h := by simp)).trans (row2n _ _ _), ?_, (below2 W a b).alloc (by simp; omega) _⟩
  have := heap_alloc_new ((W.alloc a).alloc b) c
  rwa [show ((W.alloc a).alloc b).heap.size = W.heap.size + 2 by simp] at this
namespace Dev
/-- A row that lies there goes on lying there. -/
theorem Fo.row {lo k t : Nat} {A B : World} {c : Array Value} (h : Fo lo A B) (hc : A.heap[k]? = some (.cells c t (0, 0))) (t1 : t ≠ 93) (t2 : t ≠ 90) (t3 : t ≠ 101) : B.heap[k]? = some (.cells c t (0, 0)) := (h.oth k c t hc t1 t2 t3).trans hc
/-- What changes is no part of a device or of a journal. -/
structure Fre (W W' : World) : Prop where
  size : W.heap.size ≤ W'.heap.size
  blk : ∀ g : Nat, g < W.heap.size → W'.heap[g]? = W.heap[g]? ∨ ∃ C t, W.heap[g]? = some (.cells C t (0, 0)) ∧ (t ≠ 120 ∧ t ≠ 93 ∧ t ≠ 90 ∧ t ≠ 101) ∧ ∀ m, C[0]? ≠ some (.int .u8 m)
theorem Fre.setRow {W : World} {k t : Nat} {C : Array Value} (hk : W.heap[k]? = some (.cells C t (0, 0))) (ht : t ≠ 120 ∧ t ≠ 93 ∧ t ≠ 90 ∧ t ≠ 101) (hC : ∀ m, C[0]? ≠ some (.int .u8 m)) (D : Array Value) : Fre W (W.setRow k D) := by
  refine ⟨by rw [size_setRow]; exact Nat.le_refl _, fun g _ => ?_⟩
  by_cases e : g = k
  · subst e
    exact .inr ⟨C, t, hk, ht, hC⟩
  · exact .inl (setRow_other _ _ _ _ e)
theorem Fre.row {W W' : World} (f : Fre W W') {g t : Nat} {c : Array Value} (h : W.heap[g]? = some (.cells c t (0, 0))) (ht : t = 120 ∨ t = 93 ∨ t = 90 ∨ t = 101) : W'.heap[g]? = some (.cells c t (0, 0)) := by
  rcases f.blk g (Array.getElem?_eq_some_iff.1 h).1 with q | ⟨C, t', q, ⟨n1, n2, n3, n4⟩, _⟩
  · exact q.trans h
  · rw [h] at q
    injection q with q
    injection q with _ q
    subst q
    rcases ht with rfl | rfl | rfl | rfl
    · exact absurd rfl n1
    · exact absurd rfl n2
    · exact absurd rfl n3
    · exact absurd rfl n4
theorem Ch.free {Q Q' : Nat → Prop} {W W' : World} (f : Fre W W') (hq : ∀ j, Q j → Q' j) {p : Option Addr} {d : List Nat} (h : Ch Q W p d) : Ch Q' W' p d := by
  induction h with
  | nil => exact .nil
  | cons g b cap k ah pre D h1 h2 h3 h4 h5 h6 h7 h8 h9 _ ih =>
    refine .cons g b cap k ah pre D (hq g h1) (hq b h2) (f.row h3 (.inl rfl)) h4 h5 (fun j u hu => ?_) h7 h8 h9 ih
    obtain ⟨x, r, rfl⟩ : ∃ x r, D = x :: r := by
      cases D with
      | nil => simp at h9; omega
      | cons x r => exact ⟨x, r, rfl⟩
    have h0 := h6 0 (.int .u8 (x : Int)) rfl
    rcases f.blk b (World.block_lt_of_cell? W ⟨b, 0, none⟩ h0) with q | ⟨C, t', q, _, q2⟩
    · exact (World.cell?_of_block (w := W) (a := ⟨b, j, none⟩) q).trans (h6 j u hu)
    · rw [cell_of_row _ _ _ _ _ _ q] at h0
      exact absurd h0 (q2 _)
theorem Dv.free [Inhabited HoleT] {lo v : Nat} {W W' : World} {lv : Value} {f : Array Value} {ms : List (Array Value)} {sp : List Sp} (h : Dv lo W v lv f ms sp) (hf : Fre W W') : Dv lo W' v lv f ms sp := by
  refine ⟨hf.row h.row (.inr (.inl rfl)), ?_, h.len, fun i m s h1 h2 => ?_, h.lov, Nat.le_trans h.hb hf.size⟩
  · obtain ⟨h0, h1⟩ := h.own
    refine ⟨h0, ?_⟩
    rcases h1 with h1 | ⟨g, cap, cur, rfl, hB, hg, hr⟩
    · exact .inl h1
    · exact .inr ⟨g, cap, cur, rfl, hB, hf.row hg (.inr (.inr (.inl rfl))), hr⟩
  · obtain ⟨p0, p1, e, ⟨q0, a1, a2, a3⟩, ⟨q1, b1, b2, b3⟩⟩ := h.each i m s h1 h2
    have hq : ∀ g, Qd lo W v lv g → Qd lo W' v lv g := fun g q => ⟨q.1, Nat.lt_of_lt_of_le q.2.1 hf.size, q.2.2⟩
    exact ⟨p0, p1, e, ⟨q0, a1, a2.free hf hq, a3⟩, ⟨q1, b1, b2.free hf hq, b3⟩⟩
theorem Js.free [Inhabited HoleT] {lo j v lim live gen first n : Nat} {W W' : World} {base : List (List Nat)} {bs : List (List (List Nat))} (h : Js lo W j v lim live gen first n base bs) (hf : Fre W W') (ht : Tc W') : Js lo W' j v lim live gen first n base bs := by
  obtain ⟨x, h1, h2, h3⟩ := h.jn
  obtain ⟨lv, f, ms, sp, k1, k2, k3⟩ := h1.dv
  exact ⟨⟨x, ⟨⟨lv, f, ms, sp, k1.free hf, k2, k3⟩, hf.row h1.row (.inr (.inr (.inr rfl))), h1.hole, Nat.le_trans h1.hlo hf.size, h1.loj, h1.big, h1.live1⟩, h2, h3⟩, h.gb, h.gs, h.g1, h.g2, h.f1, h.f2, h.fit, h.lim1, h.lv1, ht, h.c0, h.big⟩
section
variable [Inhabited HoleT] {lo j v lim live gen first n : Nat} {W : World} {base : List (List Nat)} {bs : List (List (List Nat))}
attribute [local go_sem ↓] toStBk toLdBk in
set_option maxRecDepth 100000 in
set_option maxHeartbeats 3200000 in
theorem does_compact {u0 u1 uL : Value} {ls : List (List Nat)} {last : Nat} (h : Js lo W j v lim live gen first n base bs) (hL : Lr W uL ls) (hLl : ∀ x ∈ ls, x.length ≤ Go.Proofs.YtfimaflglnemdaaDoor.LIM) (hroom : 52 + 40440 ≤ lim) (hn : n + 3 ≤ 1000) (hgen : gen + 1 ≤ 1000) :
    Calls Tryd.prog 37 #[.pointer (some ⟨j, 0, none⟩), .agg (bkA u0 u1 last), .agg #[.bool true, uL], .int .i64 (lim : Int)] W fun e w' => ∃ l0, e = .returned (.tuple #[.agg (bkA l0 (.slice none 0 0) last), .bool true]) ∧ Ll W.heap.size w' l0 (sho ls) ∧ Js lo w' j v lim (1 - live) (gen + 1) (first + bs.length) (n + 3) (sho ls) [] ∧ Fo lo W w' := by
  obtain ⟨oL, cL, rfl⟩ := hL.sl
  obtain ⟨V, hV⟩ : ∃ V, ((W.alloc (.cells #[u0, u1, .int .i64 (last : Int)] 30)).alloc (.cells #[.bool true, .slice oL ls.length cL] 32)).alloc (.cells #[.slice none 0 0, .slice none 0 0, .int .i64 0] 30) = V := ⟨_, rfl⟩
  obtain ⟨r0, r1, r2, bV⟩ := row3 W (.cells #[u0, u1, .int .i64 (last : Int)] 30) (.cells #[.bool true, .slice oL ls.length cL] 32) (.cells #[.slice none 0 0, .slice none 0 0, .int .i64 0] 30)
  rw [hV] at r0 r1 r2 bV
  have c1 : V.cell? ⟨W.heap.size + 1, 1, none⟩ = some (.slice oL ls.length cL) := (cell_of_row _ _ _ _ _ _ r1).trans rfl
  have C1 := short_any V (hL.below bV) hLl
  have gl := sho_gl hL.byt
  have HH := mkHid (And.intro (h.below bV) (And.intro r0 (And.intro r1 (And.intro r2 (And.intro bV gl)))))
  have hlim := h.lim1
  have h_lo := mkHid h.hlo
  clear r0 r1 r2 bV h hL hLl gl
  unfold bkA
  go_enter Tryd.func37, Tryd.ntmps37
  go_upto_region 1 with fail
  try rw [hV]
  clear hV
  go_wp2_with fail
  refine C1.mono ?_
  rintro e w1 ⟨l0, rfl, k1, b1⟩
  clear C1
  have h1 := HH.out.1.below b1
  have C2 := h1.room
  obtain ⟨rm, hrm⟩ : ∃ rm, lim - (journalw gen first base bs).length = rm := ⟨_, rfl⟩
  rw [hrm] at C2
  have r1b := (b1.block _ (Array.getElem?_eq_some_iff.1 HH.out.2.2.1).1).trans HH.out.2.2.1
  have c2 : w1.cell? ⟨W.heap.size + 1, 0, none⟩ = some (.bool true) := (cell_of_row _ _ _ _ _ _ r1b).trans rfl
  obtain ⟨o0, c0, hl0⟩ := k1.sl
  subst hl0
  have HK := mkHid (And.intro k1 (And.intro b1 h1))
  clear k1 b1 h1 r1b c1 hrm
  go_wp2_with fail
  refine C2.mono ?_
  rintro e w2 ⟨rfl, b2⟩
  clear C2
  have c2b := cell_below b2 c2
  have k2 := HK.out.1.keep (stay_below b2)
  have C3 := lists_any w2 k2.lr (fun x hx => by obtain ⟨y, -, rfl⟩ := sho_mem hx; rw [List.length_take]; unfold Go.Proofs.YtfimaflglnemdaaDoor.LIM; omega) (by have := sho_len ls; omega)
  have HK2 := mkHid (And.intro k2 b2)
  clear k2 b2 c2
  go_wp2_with fail
  refine C3.mono ?_
  rintro e w3 ⟨l3, rfl, k3, b3⟩
  clear C3
  have j3 := (HK.out.2.2.below HK2.out.2).below b3
  have hsz := sho_size ls
  have C4 := j3.compact k3 HH.out.2.2.2.2.2 (by omega) (by omega) hn hgen
  have HK3 := mkHid b3
  obtain ⟨o3, c3, hl3⟩ := k3.sl
  subst hl3
  clear k3 b3 j3 c2b
  go_wp2_with fail
  refine C4.mono ?_
  rintro e w4 ⟨rfl, j4, fo4⟩
  clear C4
  have k4 := (HK2.out.1.keep (stay_below HK3.out)).keep (fo4.stay ll_ty)
  have C5 := law_size true w4 k4.lr (by omega)
  rw [if_pos rfl] at C5
  obtain ⟨z, hz⟩ : ∃ z, 52 + sizes (sho ls) = z := ⟨_, rfl⟩
  rw [hz] at C5
  have hzl : ¬ (lim : Int) < (z : Int) := by omega
  have bV4 : Below V.heap.size V w3 := HK.out.2.1.trans ((HK2.out.2.trans (HK3.out.mono HK2.out.2.size)).mono HK.out.2.1.size)
  have foV : Fo lo V w4 := (Fo.of_below bV4).trans fo4
  have r0 := foV.row HH.out.2.1 (by decide) (by decide) (by decide)
  have r2 := foV.row HH.out.2.2.2.1 (by decide) (by decide) (by decide)
  have foW : Fo lo W w4 := (Fo.of_below HH.out.2.2.2.2.1).trans foV
  have HK4 := mkHid (And.intro k4 (And.intro j4 (And.intro foW (And.intro r0 (And.intro r2 hz)))))
  clear k4 j4 foW r0 r2 hz foV bV4 fo4
  go_wp2_with fail
  refine C5.mono ?_
  rintro e w5 ⟨rfl, hw5⟩
  subst hw5
  have j5 := HK4.out.2.1.below (below_drew w5)
  have C6 := j5.room
  have hz2 : lim - (journalw (gen + 1) (first + bs.length) (sho ls) []).length = lim - z := by rw [journalw_len, ← HK4.out.2.2.2.2.2]; simp [bsizes]
  rw [hz2] at C6
  have hzz : z ≤ lim := by omega
  have a2 : w5.drew.cell? ⟨W.heap.size, 2, none⟩ = some (.int .i64 (last : Int)) := (cell_of_row _ _ _ _ _ _ HK4.out.2.2.2.1).trans rfl
  obtain ⟨r, hr⟩ : ∃ r, lim - z = r := ⟨_, rfl⟩
  rw [hr] at C6
  have CR : Hid (Calls Tryd.prog 21 #[.pointer (some ⟨j, 0, none⟩)] w5.drew fun e w' => e = .returned (.int .i64 (r : Int)) ∧ Hid (Below w5.heap.size w5 w') ∧ w'.cell? ⟨W.heap.size, 2, none⟩ = some (.int .i64 (last : Int))) := C6.mono (fun e w' ⟨e1, e2⟩ => ⟨e1, (below_drew w5).trans e2, cell_below e2 a2⟩)
  have CS : Hid (∀ w', Hid (Below w5.heap.size w5 w') → Calls Tryd.prog 62 #[.slice o0 (sho ls).length c0, .bool true] w' fun e w2 => e = .returned (.int .i64 (z : Int)) ∧ w2 = w') := fun w' hb => by
    have := law_size true w' (HK4.out.1.lr.below hb.out) (by omega)
    rw [if_pos rfl, HK4.out.2.2.2.2.2] at this
    exact this
  have HD : Hid (∀ w', Hid (Below w5.heap.size w5 w') → (stBk (.pointer (some ⟨W.heap.size + 1 + 1, 0, none⟩)) (.agg #[.slice o0 (sho ls).length c0, .slice none 0 0, .int .i64 (last : Int)])).run Tryd.prog w' = .ok () (w'.setRow (W.heap.size + 2) #[.slice o0 (sho ls).length c0, .slice none 0 0, .int .i64 (last : Int)]) ∧ (w'.setRow (W.heap.size + 2) #[.slice o0 (sho ls).length c0, .slice none 0 0, .int .i64 (last : Int)]).cell? ⟨W.heap.size, 2, none⟩ = some (.int .i64 (last : Int)) ∧ Hid ((w'.setRow (W.heap.size + 2) #[.slice o0 (sho ls).length c0, .slice none 0 0, .int .i64 (last : Int)]).heap[W.heap.size + 2]? = some (.cells #[.slice o0 (sho ls).length c0, .slice none 0 0, .int .i64 (last : Int)] 30 (0, 0)) ∧ Ll W.heap.size (w'.setRow (W.heap.size + 2) #[.slice o0 (sho ls).length c0, .slice none 0 0, .int .i64 (last : Int)]) (.slice o0 (sho ls).length c0) (sho ls) ∧ Js lo (w'.setRow (W.heap.size + 2) #[.slice o0 (sho ls).length c0, .slice none 0 0, .int .i64 (last : Int)]) j v lim (1 - live) (gen + 1) (first + bs.length) (n + 3) (sho ls) [] ∧ Fo lo W (w'.setRow (W.heap.size + 2) #[.slice o0 (sho ls).length c0, .slice none 0 0, .int .i64 (last : Int)]))) := by
    intro w' hb
    have hr2 := (hb.out.block _ (Array.getElem?_eq_some_iff.1 HK4.out.2.2.2.2.1).1).trans HK4.out.2.2.2.2.1
    have hr0 := (hb.out.block _ (Array.getElem?_eq_some_iff.1 HK4.out.2.2.2.1).1).trans HK4.out.2.2.2.1
    have ht := (HK4.out.2.1.below hb.out).tc
    have hlo := HK4.out.2.1.hlo
    refine ⟨st_Bk w' (W.heap.size + 2) _ _ rfl rfl (by simp [Value.oneCell']) hr2, ?_, setRow_heap _ _ _ _ _ _ hr2, ?_, ?_, ?_⟩
    · exact (cell_of_row _ _ _ _ _ _ ((setRow_other w' (W.heap.size + 2) W.heap.size _ (by omega)).trans hr0)).trans rfl
    · refine ((HK4.out.1.mono HH.out.2.2.2.2.1.size).keep (stay_below hb.out)).keep (fun k c t _ ht hc => setRow_other _ _ _ _ (row_ne hc hr2 ?_))
      rcases ht with rfl | rfl <;> decide
    · refine (HK4.out.2.1.below hb.out).free (Fre.setRow hr2 (by decide) (by intro m hm; simp at hm) _) (ht.keep (by rw [size_setRow]; exact Nat.le_refl _) (setRow_other _ _ _ _ ?_))
      have := HK4.out.2.1.c0
      have := h_lo.out
      omega
    · exact (HK4.out.2.2.1.trans (Fo.of_below hb.out)).setRow (by omega) _
  have hq : Hid (((r : Int) == IntKind.i64.wrap ((lim : Int) - (z : Int))) = true) := by
    show ((r : Int) == IntKind.i64.wrap ((lim : Int) - (z : Int))) = true
    rw [beq_iff_eq, IntKind.wrap_i64]
    omega
  clear C5 C6 j5 hz2
  replace hzz := mkHid hzz
  replace hr := mkHid hr
  go_upto_region 7 with fail
  clear hzl
  go_region_held3 (fun w' => w'.cell? ⟨W.heap.size, 2, none⟩ = some (.int .i64 (last : Int))) (first | assumption | exact a2)
    (first
      | (go_at_call 21; with_reducible refine Calls.mono CR.out ?_; rintro e w6 ⟨rfl, k6, s6⟩; obtain ⟨st1, st2, st3⟩ := HD.out w6 k6)
      | (go_at_call 62; with_reducible refine Calls.mono (CS.out _ k6) ?_; rintro e w7 ⟨rfl, rfl⟩))
  rw [hq.out]
  go_wp2_with fail
  refine bodyPost_ret (results_Bk rfl _ _ (W.heap.size + 2) _ rfl rfl st3.out.1) rfl ?_
  exact ⟨_, rfl, st3.out.2⟩
end
end Dev
end Go.Proofs.YtfimaflglnemdaaDoor
