/- NoteInts: (*Copy).deep, its second half. -/
import Derived.Test.YtnljnknnjahjkaaNiR
import Derived.Deep.RegionWith
import Derived.Deep.DrawnRows
import Derived.Deep.DeepCutAuto
namespace Go.Proofs.Ytnljnknnjahjkaa
open Go.RowKit
def bdF (ps : Array (Nat × Value)) : Sem Value := Instr.build 39 ps
theorem toBdF (ps : Array (Nat × Value)) : Instr.build 39 ps = bdF ps := rfl
theorem bd_F (w : World) (nm : ByteArray) (kd : Int) (b : Bool) (x : Nat) (s : ByteArray) (o1 : Option Addr) (n1 c1 : Nat) (o2 : Option Addr) (n2 c2 : Nat) : (bdF #[(0, .string nm), (1, .agg #[.int .i64 kd, .bool b, .float .f64 x, .string s, .slice o1 n1 c1, .slice o2 n2 c2])]).run Try.prog w = .ok (.agg #[.string nm, .int .i64 kd, .bool b, .float .f64 x, .string s, .slice o1 n1 c1, .slice o2 n2 c2]) w := run_build w 39 _ _ (by kernel_rfl)
theorem bd_M (w : World) : (bdF #[(0, .string ⟨#[109, 97, 114, 107]⟩)]).run Try.prog w = .ok (.agg #[.string ⟨#[109, 97, 114, 107]⟩, .int .i64 0, .bool false, .float .f64 0, .string ⟨#[]⟩, .slice none 0 0, .slice none 0 0]) w := run_build w 39 _ _ (by kernel_rfl)
attribute [local go_sem ↓] toLdN toStN toApN toApF toBdF Go.wp_at_zero Go.wp_at_succ
def noteT (B k : Nat) (a c : Array Value) (Q : Nat → Prop) (X : World) : Prop := Tw B Q X k a c
def fieldT (B k : Nat) (a c : Array Value) (Q : Nat → Prop) (X : World) : Prop := ∃ s r r', a = #[.string s] ++ r ∧ c = #[.string s] ++ r' ∧ Tw B Q X k r r'
theorem setC (X : World) (cb : Nat) (p q : Int) (h : X.heap[cb]? = some (.cells #[.int .i64 p] 35 (0, 0))) : (X.setCell ⟨cb, 0, none⟩ (.int .i64 q)).heap[cb]? = some (.cells #[.int .i64 q] 35 (0, 0)) := heap_setCell_same _ _ _ _ _ _ h
theorem tch_setC {cb : Nat} {W X : World} (h : Tch cb W X) (v : Value) : Tch cb W (X.setCell ⟨cb, 0, none⟩ v) :=
  have b : Below 0 X (X.setCell ⟨cb, 0, none⟩ v) := (Below.refl 0 X).setCell (Nat.zero_le _) v
  ⟨b.os.trans h.os, b.tape.trans h.tape, b.output.trans h.output, Nat.le_trans h.size b.size, fun j hj hn => (heap_setCell_other _ _ _ _ hn).trans (h.block j hj hn)⟩
theorem Ds.setC {cb : Nat} {W X : World} {c : Array Value} {lf p : Int} (h : Ds cb W c lf p X) (hcb : cb < W.heap.size) (q : Int) (h0 : -1 ≤ q) (h1 : q < lf) : Ds cb W c lf q (X.setCell ⟨cb, 0, none⟩ (.int .i64 q)) :=
  ⟨Go.Proofs.Ytnljnknnjahjkaa.setC X cb p q h.cbr, (heap_setCell_other _ _ _ _ (by show W.heap.size ≠ cb; omega)).trans h.box, (heap_setCell_other _ _ _ _ (by show W.heap.size + 1 ≠ cb; omega)).trans h.res, tch_setC h.tch _, h0, h1⟩
def headR : Code → Option Nat
  | .region id _ _ => some id
  | .seq a _ => headR a
  | .scope c => headR c
  | .block _ c => headR c
  | _ => none
def fromR (n : Nat) : Code → Option Code
  | .seq a b => if headR a = some n then some (.seq a b) else match fromR n a with
    | some c => some (.seq c b)
    | none => fromR n b
  | .scope c => fromR n c
  | _ => none
noncomputable def tail8 : Code := ((Try.f8.body.bind (fromR 11)).getD .skip)
/-- Behind the last stores. -/
structure Aft (N : Nat) (Z w' : World) : Prop where
  os : w'.os = Z.os
  tape : w'.tape = Z.tape
  output : w'.output = Z.output
  size : w'.heap.size = Z.heap.size
  block : ∀ j, j ≠ N → j ≠ N + 1 → w'.heap[j]? = Z.heap[j]?
theorem Aft.setC {N : Nat} {Z w' : World} (h : Aft N Z w') (o : Nat) (v : Value) : Aft N Z (w'.setCell ⟨N, o, none⟩ v) :=
  have b : Below 0 w' (w'.setCell ⟨N, o, none⟩ v) := (Below.refl 0 w').setCell (Nat.zero_le _) v
  ⟨b.os.trans h.os, b.tape.trans h.tape, b.output.trans h.output, (by simpa using h.size), fun j h1 h2 => (heap_setCell_other _ _ _ _ (by show j ≠ N; exact h1)).trans (h.block j h1 h2)⟩
theorem Aft.setR {N : Nat} {Z w' : World} (h : Aft N Z w') (C : Array Value) : Aft N Z (w'.setRow (N + 1) C) :=
  ⟨h.os, h.tape, h.output, (by simpa using h.size), fun j h1 h2 => (setRow_other _ _ _ _ (by omega)).trans (h.block j h1 h2)⟩
theorem Aft.refl (N : Nat) (Z : World) : Aft N Z Z := ⟨rfl, rfl, rfl, rfl, fun _ _ _ => rfl⟩
theorem deep_fin {B k cb : Nat} {lf q : Int} {kd : Int} {b : Bool} {x : Nat} {s : ByteArray} {oL oF : Option Addr} {nl cL nf cF : Nat} {ln lfd ls fs : List (Array Value)} {W Z w' : World} {v2 v3 : Value} (hB : B ≤ cb) (hcb : cb < W.heap.size) (HRL : Rd B W 6 (.slice oL nl cL) ln) (HRF : Rd B W 7 (.slice oF nf cF) lfd)
    (h1 : Lp B (W.heap.size + 2) 6 (.int .i64 99) (noteT B k) v2 ls ln q v3 Z) (h2 : Lp B (W.heap.size + 2) 7 (.string mkS) (fieldT B k) v3 fs lfd q (.slice none 0 0) Z) (hd : Ds cb W #[.int .i64 kd, .bool b, .float .f64 x, .string s, .slice oL nl cL, .slice oF nf cF] lf q Z) (ha : Aft W.heap.size Z w') :
    w'.heap[cb]? = some (.cells #[.int .i64 q] 35 (0, 0)) ∧ Tch cb W w' ∧ (0 ≤ q → ∀ g7 p7 g8 p8, v2 = .slice (some ⟨g7, 0, none⟩) (nl + 1) p7 → v3 = .slice (some ⟨g8, 0, none⟩) (nf + 1) p8 → ls.length = nl → fs.length = nf → Tw B (fun g => W.heap.size ≤ g ∧ g < w'.heap.size) w' (k + 1) #[.int .i64 kd, .bool b, .float .f64 x, .string s, .slice (some ⟨g7, 0, none⟩) nl p7, .slice (some ⟨g8, 0, none⟩) nf p8] #[.int .i64 kd, .bool b, .float .f64 x, .string s, .slice oL nl cL, .slice oF nf cF]) := by
  have hz : W.heap.size + 2 ≤ Z.heap.size := (Array.getElem?_eq_some_iff.1 hd.res).1
  have t := hd.tch
  refine ⟨(ha.block cb (by omega) (by omega)).trans hd.cbr, ⟨ha.os.trans t.os, ha.tape.trans t.tape, ha.output.trans t.output, by rw [ha.size]; omega, fun j hj hn => (ha.block j (by omega) (by omega)).trans (t.block j hj hn)⟩, fun h0 g7 p7 g8 p8 e7 e8 l7 l8 => ?_⟩
  obtain ⟨a1, ⟨G7, P7, E7, R7⟩, T7⟩ := h1 h0
  obtain ⟨a2, ⟨G8, P8, E8, R8⟩, T8⟩ := h2 h0
  have kB : ∀ j, j < B → w'.heap[j]? = W.heap[j]? := fun j hj => (ha.block j (by omega) (by omega)).trans (t.block j (by omega) (by omega))
  have kB2 : ∀ j, j < B → w'.heap[j]? = Z.heap[j]? := fun j hj => ha.block j (by omega) (by omega)
  have kQ : ∀ vf j, Bk (W.heap.size + 2) Z vf j → w'.heap[j]? = Z.heap[j]? := fun vf j hj => ha.block j (by have := hj.1; omega) (by have := hj.1; omega)
  have kS : ∀ vf j, Bk (W.heap.size + 2) Z vf j → W.heap.size ≤ j ∧ j < w'.heap.size := fun vf j hj => ⟨by have := hj.1; omega, by rw [ha.size]; exact hj.2.1⟩
  obtain ⟨rfl, rfl⟩ : G7 = g7 ∧ P7 = p7 := by rw [e7] at E7; injection E7 with q1 q2 q3; injection q1 with q1; injection q1 with q1; exact ⟨q1.symm, q3.symm⟩
  obtain ⟨rfl, rfl⟩ : G8 = g8 ∧ P8 = p8 := by rw [e8] at E8; injection E8 with q1 q2 q3; injection q1 with q1; injection q1 with q1; exact ⟨q1.symm, q3.symm⟩
  rw [l7] at R7
  rw [l8] at R8
  exact ⟨kd, b, x, s, _, _, _, _, ln, lfd, ls, fs, rfl, rfl, HRL.keep kB, HRF.keep kB, R7.keep (kQ _) (kS _), R8.keep (kQ _) (kS _), a1, a2, fun i a c' q1 q2 => (T7 i a c' q1 q2).keep kB2 (kQ _) (kS _), fun i a c' q1 q2 => (carr_field B k) _ _ _ _ _ _ kB2 (kQ _) (kS _) (T8 i a c' q1 q2)⟩
theorem own_sl {w : World} {lo e sz n : Nat} {v : Value} {xs : List Value} (h : w.ownsRow lo e sz v n xs) : isSl v := by
  rcases h.2 with ⟨h1, _⟩ | ⟨g, cap, cur, h1, _⟩
  · exact ⟨_, _, _, h1⟩
  · exact ⟨_, _, _, h1⟩
set_option maxRecDepth 100000 in
set_option maxHeartbeats 6400000 in
theorem deep_tail (B k d cb : Nat) (lf p q : Int) (kd : Int) (b : Bool) (x : Nat) (s : ByteArray) (oL oF : Option Addr) (nl cL nf cF : Nat) (ln lfd ls : List (Array Value)) (W Y3 : World) {o7 : Option Addr} {n7 c7 : Nat} {v1 v3 v5 v8 v9 v10 v11 v12 v13 v14 v15 v16 v17 v18 v19 v20 v21 v22 v23 v24 v25 v26 v27 v28 v29 v30 v31 v32 v33 v34 v35 v36 v37 v38 v39 v40 v41 v42 v43 v44 v45 v46 v47 v48 v49 v50 v51 v52 v53 v54 v55 v56 v57 v58 v59 v60 v61 v62 v63 v64 v65 v66 v67 v68 v69 v70 v71 v72 v73 v74 v75 v76 v77 v78 v79 v80 v81 v82 v83 v84 v85 v86 v87 v88 v89 v90 v91 v92 v93 v94 v95 v96 v97 v98 v99 v100 v101 v102 v103 v104 v105 v106 v107 v108 v109 v110 v111 v112 v113 v114 v115 v116 v117 v118 v119 v120 v121 : Value}
    (HIH : Hid (∀ (c : Array Value) (d cb : Nat) (lf : Int) (W : World), d ≤ 100 → B ≤ cb → cb < W.heap.size → 0 ≤ lf → lf ≤ 70000 → W.heap[cb]? = some (.cells #[.int .i64 lf] 35 (0, 0)) → Nt B W k c → Calls Try.prog 8 #[.pointer (some ⟨cb, 0, none⟩), .agg c, .int .i64 (d : Int)] W (DpP B k cb lf c W)))
    (HFn : Hid (∀ a ∈ lfd, ∃ s r, a = #[.string s] ++ r ∧ Nt B W k r))
    (HRL : Hid (Rd B W 6 (.slice oL nl cL) ln)) (HRF : Hid (Rd B W 7 (.slice oF nf cF) lfd))
    (HF3 : Hid (∀ (i : Nat) c, lfd[i]? = some c → ∃ g o, oF = some ⟨g, o, none⟩ ∧ g < B ∧ c.size = 7 ∧ W.rangeAt g (o + i * 7) c.toList)) (hF2 : cF ≤ maxLen) (hF1 : nf ≤ cF)
    (HP : Hid (lf - 1 = p ∧ 0 ≤ lf ∧ lf ≤ 70000 ∧ nl = ln.length ∧ nf = lfd.length ∧ d ≤ 100 ∧ cb < W.heap.size ∧ B ≤ cb)) (HQ0 : Hid (p + 1 ≤ lf ∧ d ≤ 80)) (wd : IntKind.i64.wrap ((d : Int) + 1) = ((d + 1 : Nat) : Int))
    (HLp : Hid (Lp B (W.heap.size + 2) 6 (.int .i64 99) (noteT B k) (.slice o7 n7 c7) ls ln q (.slice none 0 0) Y3)) (HD4 : Hid (Ds cb W #[.int .i64 kd, .bool b, .float .f64 x, .string s, .slice oL nl cL, .slice oF nf cF] lf q Y3)) (HQ4 : Hid (q + (0 : Int) + 1 ≤ lf ∧ W.heap.size + 2 ≤ Y3.heap.size)) :
    Code.wp Try.prog tail8 (bodyPost Try.prog Try.f8 (DpP B (k + 1) cb lf #[.int .i64 kd, .bool b, .float .f64 x, .string s, .slice oL nl cL, .slice oF nf cF] W)) ⟨#[.pointer (some ⟨cb, 0, none⟩), v1, .int .i64 (d : Int), v3, .pointer (some ⟨W.heap.size, 0, none⟩), v5, .pointer (some ⟨W.heap.size + 1, 0, none⟩), .slice o7 n7 c7, v8, v9, v10, v11, v12, v13, v14, v15, v16, v17, v18, v19, v20, v21, v22, v23, v24, v25, v26, v27, v28, v29, v30, v31, v32, v33, v34, v35, v36, v37, v38, v39, v40, v41, v42, v43, v44, v45, v46, v47, v48, v49, v50, v51, v52, v53, v54, v55, v56, v57, v58, v59, v60, v61, v62, v63, v64, v65, v66, v67, v68, v69, v70, v71, v72, v73, v74, v75, v76, v77, v78, v79, v80, v81, v82, v83, v84, v85, v86, v87, v88, v89, v90, v91, v92, v93, v94, v95, v96, v97, v98, v99, v100, v101, v102, v103, v104, v105, v106, v107, v108, v109, v110, v111, v112, v113, v114, v115, v116, v117, v118, v119, v120, v121], []⟩ Y3 := by
  conv => arg 2; whnf
  go_wp2_with fail
  go_loopw [9, 10] (fun fv jv wr => ∃ (j : Nat) (fs : List (Array Value)) (q : Int), jv = .int .i64 (j : Int) ∧ Hid (fs.length = j) ∧ isSl fv ∧ Hid (Ds cb W #[.int .i64 kd, .bool b, .float .f64 x, .string s, .slice oL nl cL, .slice oF nf cF] lf q wr) ∧ Hid (Ls B k (W.heap.size + 2) 39 7 (fieldT B k) fv fs lfd q wr) ∧ Hid (Lp B (W.heap.size + 2) 6 (.int .i64 99) (noteT B k) (.slice o7 n7 c7) ls ln q fv wr) ∧ Hid (q + (j : Int) + 1 ≤ lf ∧ j ≤ nf ∧ W.heap.size + 2 ≤ wr.heap.size)) (fun _ jv _ => nf - (intOf jv).toNat)
  case atStart => exact ⟨0, [], q, rfl, (by show _ = _; rfl), ⟨none, 0, 0, rfl⟩, HD4, ⟨World.ownsRow_nil _ _ _ _, (fun c hc => by cases hc), Nat.zero_le _, (fun _ i a c h => by simp at h)⟩, HLp, ⟨by have := HQ4.out; omega, Nat.zero_le _, HQ4.out.2⟩⟩
  case round =>
    obtain ⟨j, fs, q3, rfl, Hfs, ⟨ob, n1, c1, rfl⟩, HD, HFs, HLq, HQ⟩ := hrel
    have k2 : wr.cell? ⟨cb, 0, none⟩ = some (.int .i64 q3) := by rw [cell_of_row _ _ _ _ _ _ HD.out.cbr]; rfl
    have a5 : wr.cell? ⟨W.heap.size, 5, none⟩ = some (.slice oF nf cF) := by rw [cell_of_row _ _ _ _ _ _ HD.out.box]; rfl
    by_cases hgo : j < nf ∧ 0 ≤ q3
    · have hlt' : (j : Int) < (nf : Int) := by omega
      have hq0 : (0 : Int) ≤ q3 := hgo.2
      have hlN : j < lfd.length := by rw [← HP.out.2.2.2.2.1]; exact hgo.1
      obtain ⟨c, hc⟩ : ∃ c, lfd[j]? = some c := ⟨_, List.getElem?_eq_getElem hlN⟩
      obtain ⟨g, o, hoF, hgB, hcz, hcr⟩ := HF3.out j c hc
      obtain ⟨nm, r, rfl, hNt0⟩ := HFn.out c (List.mem_of_getElem? hc)
      have keepB : ∀ j, j < B → wr.heap[j]? = W.heap[j]? := fun j hj => HD.out.tch.block j (by have := HP.out; omega) (by have := HP.out; omega)
      have hNt : Nt B wr.drew k r := hNt0.keep (W' := wr.drew) keepB
      have C : Hid _ := HIH.out r (d + 1) cb q3 wr.drew (by have := HQ0.out; omega) HP.out.2.2.2.2.2.2.2 (by have := HP.out; have := HQ.out; show cb < wr.heap.size; omega) hq0 (by have := HP.out; have := HQ.out; omega) HD.out.cbr hNt
      have hrg := range_keep hcr (keepB g hgB)
      have a5d : wr.drew.cell? ⟨W.heap.size, 5, none⟩ = some (.slice oF nf cF) := a5
      have nmd : wr.drew.cell? ⟨g, o + j * 7, none⟩ = some (.string nm) := hrg 0 (.string nm) (by simp)
      have l2 : (ldN (.pointer (some ⟨g, o + j * 7 + 1, none⟩))).run Try.prog wr.drew = .ok (.agg r) wr.drew := ld_mid wr.drew g (o + j * 7 + 1) r (by simp at hcz; omega) (tail_range hrg)
      subst hoF
      have i0 : (0 : Int) ≤ (j : Int) := by omega
      have w2 : IntKind.i64.wrap ((j : Int) + 1) = (j : Int) + 1 := by rw [IntKind.wrap_i64]; simp only [maxLen] at hF2; omega
      have HI : Hid (j < nf ∧ 0 ≤ q3 ∧ lfd[j]? = some (#[.string nm] ++ r)) := ⟨hgo.1, hgo.2, hc⟩
      have HG : Hid (g < B ∧ (∀ j, j < B → wr.heap[j]? = W.heap[j]?) ∧ wr.cell? ⟨g, o + j * 7, none⟩ = some (.string nm)) := ⟨hgB, keepB, nmd⟩
      clear hgo hlN hc hcr hcz hgB keepB hNt hNt0 hrg
      go_wp2_with fail
      go_region_with (go_at_call 8; refine Calls.mono C.out ?_; rintro e X' ⟨kd', b', x', s', L0, F0, L', F', q', hce, ⟨o1, m1, e1, rfl⟩, ⟨o2, m2, e2, rfl⟩, rfl, hcb', hq1, hq2, ht, hTw⟩; have a5x : X'.cell? ⟨W.heap.size, 5, none⟩ = some (.slice (some ⟨g, o, none⟩) nf cF) := (World.cell?_of_block (w := wr) (a := ⟨W.heap.size, 5, none⟩) (ht.block W.heap.size (by have := HQ.out; show W.heap.size < wr.heap.size; omega) (by have := HP.out; omega))).trans a5; have nmx : X'.cell? ⟨g, o + j * 7, none⟩ = some (.string nm) := (World.cell?_of_block (w := wr) (a := ⟨g, o + j * 7, none⟩) (ht.block g (by have := HQ.out; have := HG.out.1; have := HP.out; show g < wr.heap.size; omega) (by have := HP.out; have := HG.out.1; omega))).trans HG.out.2.2; have hown : Hid _ := (HFs.out.drew (carr_field B k)).call (q' := q') (carr_field B k) HI.out.2.1 (by have := HP.out; omega) HP.out.2.2.2.2.2.2.2 HQ.out.2.2 ht; obtain ⟨v', X3, hr, ho, hg, hat⟩ := run_apF1 X' (W.heap.size + 2) fs.length 24 (.slice ob n1 c1) fs #[.string nm, .int .i64 kd', .bool b', .float .f64 x', .string s', .slice o1 m1 e1, .slice o2 m2 e2] hown.out.own rfl (by simp [Value.oneCell']) (by have h1 := Hfs.out; have := HQ.out; have := HP.out; omega) (by have := ht.size; have h2 : W.heap.size + 2 ≤ wr.drew.heap.size := HQ.out.2.2; omega); have bF := fun W => bd_F W nm kd' b' x' s' o1 m1 e1 o2 m2 e2; have hadd := hown.out.add (carr_field B k) (t := #[.string nm, .int .i64 kd', .bool b', .float .f64 x', .string s', .slice o1 m1 e1, .slice o2 m2 e2]) (c := #[.string nm] ++ r) (N := wr.drew.heap.size) (ty := 39) (by have := HP.out; omega) HQ.out.2.2 ht.size (fun g hg2 => (HFs.out.own.lt g hg2).2) (by rw [Hfs.out]; exact HI.out.2.2) rfl (fun h => ⟨nm, noteA kd' b' x' s' (.slice o1 m1 e1) (.slice o2 m2 e2), r, rfl, rfl, hTw h⟩) ho hg hat; have hlp2 := ((HLq.out.drew (carr_note B k)).call (q' := q') (carr_note B k) HI.out.2.1 (by have := HP.out; omega) HP.out.2.2.2.2.2.2.2 HQ.out.2.2 ht).grown (carr_note B k) (by have := HP.out; omega) (by have := ht.size; have h2 : W.heap.size + 2 ≤ wr.drew.heap.size := HQ.out.2.2; omega) (fun g hg => (hown.out.own.lt g hg).1) hg hat; have hds2 := ((HD.out.drew).call HP.out.2.2.2.2.2.2.1 ht hcb' hq1 hq2).grown HP.out.2.2.2.2.2.2.1 (fun g hg => (hown.out.own.lt g hg).1) hg; have hsl3 : isSl v' := own_sl ho; have HFIN : Hid (∃ t q', Ls B k (W.heap.size + 2) 39 7 (fieldT B k) v' (fs ++ [t]) lfd q' X3 ∧ Lp B (W.heap.size + 2) 6 (.int .i64 99) (noteT B k) (.slice o7 n7 c7) ls ln q' v' X3 ∧ Ds cb W #[.int .i64 kd, .bool b, .float .f64 x, .string s, .slice oL nl cL, .slice (some ⟨g, o, none⟩) nf cF] lf q' X3 ∧ q' < q3) := ⟨_, q', hadd, hlp2, hds2, hq1⟩; clear hadd hlp2 hds2 hat hg ho hown hTw hce HIH HFn HLq HFs HD HD4 HLp; unfold noteA)
      all_goals
        go_wp2_with fail
        go_roundw
        case rel => 
          obtain ⟨oz, nz, cz, rfl⟩ := hsl3
          obtain ⟨t, q', hR⟩ := HFIN.out
          exact ⟨j + 1, fs ++ [t], q', by go_num, (by show _ = _; rw [List.length_append, Hfs.out]; rfl), ⟨_, _, _, rfl⟩, hR.2.2.1, hR.1, hR.2.1, ⟨by have := HQ.out; have := hR.2.2.2; omega, HI.out.1, (Array.getElem?_eq_some_iff.1 hR.2.2.1.res).1⟩⟩
        case measure => have := HI.out.1; simp [intOf]; omega
    · have hfin : 0 ≤ q3 → fs.length = lfd.length := fun h0 => by have h1 := Hfs.out; have h2 := HP.out; have h3 := HQ.out; omega
      obtain ⟨v3, Z3, hr3, ho3, hg3, hat3⟩ := run_apF1 wr (W.heap.size + 2) fs.length 24 (.slice ob n1 c1) fs #[.string ⟨#[109, 97, 114, 107]⟩, .int .i64 0, .bool false, .float .f64 0, .string ⟨#[]⟩, .slice none 0 0, .slice none 0 0] HFs.out.own rfl (by simp [Value.oneCell']) (by have h1 := Hfs.out; have := HP.out; have := HQ.out; have := HD.out.q0; omega) HQ.out.2.2
      have HL2 : Hid (Lp B (W.heap.size + 2) 7 (.string mkS) (fieldT B k) v3 fs lfd q3 (.slice none 0 0) Z3) := Lp.made (carr_field B k) HFs.out (by have := HP.out; omega) HQ.out.2.2 hfin rfl rfl ho3 hg3
      have HL1 : Hid (Lp B (W.heap.size + 2) 6 (.int .i64 99) (noteT B k) (.slice o7 n7 c7) ls ln q3 v3 Z3) := HLq.out.grown (carr_note B k) (by have := HP.out; omega) HQ.out.2.2 (fun g hg => (HFs.out.own.lt g hg).1) hg3 hat3
      have HD5 : Hid (Ds cb W #[.int .i64 kd, .bool b, .float .f64 x, .string s, .slice oL nl cL, .slice oF nf cF] lf q3 Z3) := HD.out.grown HP.out.2.2.2.2.2.2.1 (fun g hg => (HFs.out.own.lt g hg).1) hg3
      obtain ⟨o8, n8, c8, rfl⟩ := own_sl ho3
      have bM := bd_M
      have k3 : Z3.cell? ⟨cb, 0, none⟩ = some (.int .i64 q3) := by rw [cell_of_row _ _ _ _ _ _ HD5.out.cbr]; rfl
      have hff : 0 ≤ q3 → ¬ (j : Int) < (nf : Int) := fun h => by omega
      have Hfn : Hid (0 ≤ q3 → fs.length = nf) := fun h => by rw [hfin h]; exact HP.out.2.2.2.2.1.symm
      clear hgo hfin ho3 hg3 hat3 HLq HFs HD HIH HFn HF3 HLp HD4
      by_cases h0 : 0 ≤ q3
      · have hx := hff h0
        have hx0 : ¬ q3 < 0 := by omega
        obtain ⟨e1, ⟨g7, p7, h7, R7⟩, -⟩ := HL1.out h0
        obtain ⟨e2, ⟨g8, p8, h8, R8⟩, -⟩ := HL2.out h0
        have e1' : ls.length = nl := e1.trans HP.out.2.2.2.1.symm
        have e2' := Hfn.out h0
        rw [e1'] at h7 R7
        rw [e2'] at h8 R8
        injection h7 with h71 h72 h73
        injection h8 with h81 h82 h83
        subst h71 h72 h73 h81 h82 h83
        obtain ⟨_, _, e3, c7a, c7b, -⟩ := R7
        obtain ⟨_, _, e4, c8a, c8b, -⟩ := R8
        injection e3 with y1 y2 e3
        injection e4 with y3 y4 e4
        clear y1 y2 y3 y4
        subst e3 e4
        rw [e1'] at c7a
        rw [e2'] at c8a
        have i7 : (nl : Int) ≤ (c7 : Int) := by omega
        have i8 : (nf : Int) ≤ (c8 : Int) := by omega
        have j7 : (0 : Int) ≤ (nl : Int) := by omega
        have j8 : (0 : Int) ≤ (nf : Int) := by omega
        have a4 : Z3.cell? ⟨W.heap.size, 4, none⟩ = some (.slice oL nl cL) := by rw [cell_of_row _ _ _ _ _ _ HD5.out.box]; rfl
        have a5 : Z3.cell? ⟨W.heap.size, 5, none⟩ = some (.slice oF nf cF) := by rw [cell_of_row _ _ _ _ _ _ HD5.out.box]; rfl
        have f4 : Z3.frozen? ⟨W.heap.size, 4, none⟩ = false := frozen_of_row _ _ _ _ _ HD5.out.box
        obtain ⟨Z4, hZ4⟩ : ∃ Z4, Z3.setCell ⟨W.heap.size, 4, none⟩ (.slice (some ⟨g7, 0, none⟩) nl c7) = Z4 := ⟨_, rfl⟩
        have r4 : Z4.heap[W.heap.size]? = some (.cells #[.int .i64 kd, .bool b, .float .f64 x, .string s, .slice (some ⟨g7, 0, none⟩) nl c7, .slice oF nf cF] 26 (0, 0)) := by rw [← hZ4]; exact heap_setCell_same _ _ _ _ _ _ HD5.out.box
        have f5 : Z4.frozen? ⟨W.heap.size, 5, none⟩ = false := frozen_of_row _ _ _ _ _ r4
        have b5 : Z4.cell? ⟨W.heap.size, 5, none⟩ = some (.slice oF nf cF) := by rw [cell_of_row _ _ _ _ _ _ r4]; rfl
        obtain ⟨Z5, hZ5⟩ : ∃ Z5, Z4.setCell ⟨W.heap.size, 5, none⟩ (.slice (some ⟨g8, 0, none⟩) nf c8) = Z5 := ⟨_, rfl⟩
        have r5 : Z5.heap[W.heap.size]? = some (.cells #[.int .i64 kd, .bool b, .float .f64 x, .string s, .slice (some ⟨g7, 0, none⟩) nl c7, .slice (some ⟨g8, 0, none⟩) nf c8] 26 (0, 0)) := by rw [← hZ5]; exact heap_setCell_same _ _ _ _ _ _ r4
        have ha : Aft W.heap.size Z3 Z5 := by rw [← hZ5, ← hZ4]; exact ((Aft.refl _ _).setC 4 _).setC 5 _
        have rr : Z5.heap[W.heap.size + 1]? = some (.cells zN 26 (0, 0)) := by
          rw [← hZ5, ← hZ4]
          exact ((heap_setCell_other _ _ _ _ (by show W.heap.size + 1 ≠ W.heap.size; omega)).trans (heap_setCell_other _ _ _ _ (by show W.heap.size + 1 ≠ W.heap.size; omega))).trans HD5.out.res
        have ld := ld_row Z5 W.heap.size _ rfl r5
        have st := st_N Z5 (W.heap.size + 1) zN #[.int .i64 kd, .bool b, .float .f64 x, .string s, .slice (some ⟨g7, 0, none⟩) nl c7, .slice (some ⟨g8, 0, none⟩) nf c8] rfl rfl (by simp [Value.oneCell']) rr
        have HF : Hid ((Z5.setRow (W.heap.size + 1) #[.int .i64 kd, .bool b, .float .f64 x, .string s, .slice (some ⟨g7, 0, none⟩) nl c7, .slice (some ⟨g8, 0, none⟩) nf c8]).heap[W.heap.size + 1]? = some (.cells #[.int .i64 kd, .bool b, .float .f64 x, .string s, .slice (some ⟨g7, 0, none⟩) nl c7, .slice (some ⟨g8, 0, none⟩) nf c8] 26 (0, 0))) := setRow_heap _ _ _ _ _ _ rr
        have HE : Hid _ := deep_fin HP.out.2.2.2.2.2.2.2 HP.out.2.2.2.2.2.2.1 HRL.out HRF.out HL1.out HL2.out HD5.out (ha.setR #[.int .i64 kd, .bool b, .float .f64 x, .string s, .slice (some ⟨g7, 0, none⟩) nl c7, .slice (some ⟨g8, 0, none⟩) nf c8])
        have HX : Hid (Z3.setCell ⟨W.heap.size, 4, none⟩ (.slice (some ⟨g7, 0, none⟩) nl c7) = Z4 ∧ Z4.setCell ⟨W.heap.size, 5, none⟩ (.slice (some ⟨g8, 0, none⟩) nf c8) = Z5) := ⟨hZ4, hZ5⟩
        have HY : Hid (q3 < lf ∧ -1 ≤ q3 ∧ ls.length = nl ∧ fs.length = nf ∧ 0 ≤ q3) := ⟨HD5.out.q1, HD5.out.q0, e1', e2', h0⟩
        rw [← hZ5, ← hZ4] at ld st
        rw [← hZ4] at f5 b5
        clear hZ4 hZ5 r4 r5 rr ha HL1 HL2 HD5 e1 e2 e1' e2' hff Hfn c7a c7b c8a c8b h0
        unfold zN at *
        go_wp2_with fail
        rw [HX.out.1, HX.out.2]
        refine bodyPost_ret (results_N rfl _ _ (W.heap.size + 1) _ rfl rfl HF.out) rfl ?_
        exact ⟨kd, b, x, s, _, _, _, _, q3, rfl, ⟨_, _, _, rfl⟩, ⟨_, _, _, rfl⟩, rfl, HE.out.1, HY.out.1, HY.out.2.1, HE.out.2.1, fun h => HE.out.2.2 h g7 c7 g8 c8 rfl rfl HY.out.2.2.1 HY.out.2.2.2.1⟩
      · have hx0 : q3 < 0 := by omega
        have ld := ld_row Z3 W.heap.size _ rfl HD5.out.box
        have st := st_N Z3 (W.heap.size + 1) zN #[.int .i64 kd, .bool b, .float .f64 x, .string s, .slice oL nl cL, .slice oF nf cF] rfl rfl (by simp [Value.oneCell']) HD5.out.res
        have HF : Hid ((Z3.setRow (W.heap.size + 1) #[.int .i64 kd, .bool b, .float .f64 x, .string s, .slice oL nl cL, .slice oF nf cF]).heap[W.heap.size + 1]? = some (.cells #[.int .i64 kd, .bool b, .float .f64 x, .string s, .slice oL nl cL, .slice oF nf cF] 26 (0, 0))) := setRow_heap _ _ _ _ _ _ HD5.out.res
        have HE : Hid _ := deep_fin HP.out.2.2.2.2.2.2.2 HP.out.2.2.2.2.2.2.1 HRL.out HRF.out HL1.out HL2.out HD5.out ((Aft.refl _ _).setR #[.int .i64 kd, .bool b, .float .f64 x, .string s, .slice oL nl cL, .slice oF nf cF])
        have HY : Hid (q3 < lf ∧ -1 ≤ q3) := ⟨HD5.out.q1, HD5.out.q0⟩
        clear HL1 HL2 HD5 hff Hfn
        unfold zN at *
        by_cases hx : (j : Int) < (nf : Int)
        all_goals
          go_wp2_with fail
          refine bodyPost_ret (results_N rfl _ _ (W.heap.size + 1) _ rfl rfl HF.out) rfl ?_
          exact ⟨kd, b, x, s, _, _, _, _, q3, rfl, ⟨_, _, _, rfl⟩, ⟨_, _, _, rfl⟩, rfl, HE.out.1, HY.out.1, HY.out.2, HE.out.2.1, fun h => by omega⟩
end Go.Proofs.Ytnljnknnjahjkaa
