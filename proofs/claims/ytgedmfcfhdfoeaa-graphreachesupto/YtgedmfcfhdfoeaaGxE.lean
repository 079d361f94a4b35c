/- The search by layers: its closure, as an iterator. -/
import Derived.Test.YtgedmfcfhdfoeaaGxD
import Derived.Handy
namespace Go.Proofs.Ytgedmfcfhdfoeaa
open Go.RowKit GM
theorem sta0 {F : Nat → List Nat} {S : List Nat} {W Wm w1 : World} {X0 : Nat → Prop} {bm n0 : Nat} {lv : Value} (bM : Below W.heap.size W Wm) (hbm : W.heap.size = bm) (f0 : FrI Wm Wm.heap.size bm (.slice none 0 0) [] [] S n0 lv w1) (hX0 : ∀ k, X0 k → k < W.heap.size) : Sta F S W X0 bm 0 lv X0 w1 := by
  have hs := bM.size
  have hs2 := f0.frm.size
  refine ⟨⟨Wm.heap.size, ?_⟩, fun k hk => ?_, f0.mks, by omega, fun q => by have := hX0 _ q; omega, ⟨f0.frm.os.trans bM.os, f0.frm.tape.trans bM.tape, f0.frm.output.trans bM.output, Nat.le_trans hs hs2, fun k hk _ => (f0.frm.blk k (Nat.lt_of_lt_of_le hk hs) (fun q => ?_)).trans (bM.block k hk)⟩, fun k hk => .inl hk, fun k hk => by have := hX0 k hk; omega⟩
  · have h1 := f0.own
    have h2 := f0.len
    rw [List.nil_append] at h1
    simp only [List.length_nil, Nat.zero_add] at h2
    rw [h2] at h1
    exact h1
  · rcases f0.new k hk with q | q
    · cases q
    · exact ⟨by omega, fun q2 => by have := hX0 k q2; omega⟩
  · rcases q with q | q
    · omega
    · cases q
set_option maxRecDepth 100000 in
set_option maxHeartbeats 6400000 in
theorem layers_iter {Da : Nat → Prop} {b1 b2 g N gs K : Nat} {gv : Nat → Nat} {F : Nat → List Nat} {V : Nat → Value} {sv : Value} {S : List Nat} {w0 : World} (n : Nat) (h : Lys Da b1 b2 g N gs gv F V sv S w0) (hDa : ∀ k, Da k → k < w0.heap.size) (hN : N ≤ 10000000)
    (hS : ∀ x ∈ S, x < N) (hF : ∀ v, v < N → ∀ x ∈ F v, x < N) (hSl : S.length < 10000000) (hFl : ∀ v, v < N → (F v).length < 10000000) (hK : (lyr F S K).1 = []) (hK' : ∀ i, i < K → (lyr F S i).1 ≠ []) :
    Rm.Iter Fence.wide n Try.prog 71 #[.pointer (some ⟨b1, 0, none⟩), .pointer (some ⟨b2, 0, none⟩)] K (LyV F S) LyH (LyR F S) w0 Da := by
  intro l J Jx W X0 hW hJ hJx hY h0 hX0 hX1
  have hL := h.keep hW.size (fun k hk => hW.block k (hDa k hk))
  have hDa' : ∀ k, Da k → k < W.heap.size := fun k hk => Nat.lt_of_lt_of_le (hDa k hk) hW.size
  clear h hDa
  obtain ⟨os, cs, es, -⟩ := id hL.st
  have C1 := hL.c1
  rw [es] at C1
  have HY := mkHid (And.intro hJ (And.intro hJx (And.intro hY (And.intro h0 (And.intro hX0 (And.intro hX1 (And.intro hL hDa')))))))
  have HN := mkHid (And.intro hN (And.intro hS (And.intro hF (And.intro hSl (And.intro hFl (And.intro hK hK'))))))
  obtain ⟨SL, hSL⟩ : ∃ n, S.length = n := ⟨_, rfl⟩
  rw [hSL] at C1
  have M0 := mks_made W
  have bM : Below W.heap.size W (W.alloc (.map #[] 0)) := (Below.refl _ W).alloc (Nat.le_refl _) _
  obtain ⟨Wm, hWm⟩ : ∃ w, W.alloc (.map #[] 0) = w := ⟨_, rfl⟩
  obtain ⟨bm, hbm⟩ : ∃ k, W.heap.size = k := ⟨_, rfl⟩
  rw [hWm] at M0 bM
  rw [hbm] at M0
  have CA := fresh_any Wm (B := Wm.heap.size) (b := bm) (g := gs) (lv := .slice none 0 0) (vv := sv) (L := []) (vs := S) (M := []) (World.ownsRow_nil _ _ _ _) (Nat.le_refl _) (hL.st.keep0 bM.size fun hl => bM.block gs (hDa' _ (hL.ds hl))) M0 (fun hl => ⟨by have := hDa' _ (hL.ds hl); omega, by intro q; cases q⟩) (fun x hx => by have := hS x hx; omega) (by simpa using by omega) (by simpa using by omega)
  rw [es, hSL] at CA
  have hmm : (Instr.makeMap 100 none).run Try.prog W = .ok (.map (some bm)) Wm := by rw [← hbm, ← hWm]; exact run_makeMap _ _
  have HM := mkHid (And.intro bM hbm)
  have cC1 : ∀ k, (Wm.drewN k).cell? ⟨b1, 0, none⟩ = some (.slice os SL cs) := fun k => (World.cell?_of_block (w := W) (a := ⟨b1, 0, none⟩) (bM.block b1 (hDa' _ hL.d1))).trans C1
  have cC0 : Wm.cell? ⟨b1, 0, none⟩ = some (.slice os SL cs) := cC1 0
  clear hJ hJx hY h0 hX0 hX1 hL hDa' hW hN hS hF hSl hFl hK hK' es M0 bM C1 hSL hWm hbm
  show CallsIn _ _ _ _ #[.func (.yield l) #[] #[], .pointer (some ⟨b1, 0, none⟩), .pointer (some ⟨b2, 0, none⟩)] W _
  refine callsIn_of_wp Try.func71 rfl trivial ?_ rfl
  simp only [Try.ntmps71, List.size_toArray, List.length_cons, List.length_nil, Nat.reduceAdd, Nat.reduceSub, Array.replicate_succ, Array.replicate_zero, List.push_toArray, List.append_toArray, List.nil_append, List.cons_append]
  gi_wp2
  refine ⟨trivial, fun h => (by cases h), callsIn_wide.2 (CA.mono ?_)⟩
  rintro e w1 ⟨n0, lv, rfl, f0⟩
  clear CA cC0 cC1 hmm
  obtain ⟨ol, cl, el⟩ := own_size f0.own
  subst el
  have HS : Hid (∃ d, d ≤ K ∧ Rnd F S W X0 bm J d (.slice ol n0 cl) w1) := by
    obtain ⟨hJ, hJx, hY, h0, hX0, hX1, hL, hDa⟩ := HY.out
    obtain ⟨bM, hbm⟩ := HM.out
    refine ⟨0, Nat.zero_le _, X0, sta0 bM hbm f0 hX0, ?_⟩
    refine hJ 0 X0 W w1 h0 ⟨f0.frm.os.trans bM.os, f0.frm.tape.trans bM.tape, f0.frm.output.trans bM.output, Nat.le_trans bM.size f0.frm.size, fun k hk _ => (f0.frm.blk k (Nat.lt_of_lt_of_le hk bM.size) (fun q => ?_)).trans (bM.block k hk)⟩
    rcases q with q | q
    · omega
    · cases q
  clear f0
  gi_wp2
  gi_loopw [5] (fun lv wr => ∃ (o : Option Addr) (nn c : Nat), lv = .slice o nn c ∧ Hid (∃ d, d ≤ K ∧ Rnd F S W X0 bm J d lv wr)) (fun lv wr => msr K (fun d => Rnd F S W X0 bm J d lv wr))
  case atStart => exact ⟨ol, n0, cl, rfl, HS⟩
  case round =>
    obtain ⟨o, nn, c, rfl, HI⟩ := hrel
    obtain ⟨d, hd, ⟨X, hs, hj⟩, hms⟩ := (msr_spec HI.out).1
    have hnn := hs.size
    by_cases hlt : d < K
    · have hpos : 0 < nn := by rw [hnn]; exact List.length_pos_iff.2 (HN.out.2.2.2.2.2.2 d hlt)
      have hposI : (0 : Int) < (nn : Int) := by omega
      obtain ⟨B, hown⟩ := id hs.own
      obtain ⟨fn, tmps, assign, body, hy, hR⟩ := HY.out.2.2.1 d #[.slice o nn c] X wr hlt hj hs.frm.size ⟨_, B, _, rfl, hown⟩ (fun k hk => by
        obtain ⟨v, e, q⟩ := hk
        injection e with e
        injection e with e
        subst e
        exact hs.blk k q)
      have HQ := mkHid (And.intro hs (And.intro hms hnn))
      have HP := mkHid hpos
      clear hs hj hms hnn hown hpos
      gi_wp2
      refine ⟨fun h => (by cases h), hR.mono ?_⟩
      rintro e W2 ⟨X', hf, hX', (⟨rfl, hJ2, hR2⟩ | ⟨rfl, hJx2⟩)⟩
      · have HT : Hid (FrI W2 W2.heap.size bm (.slice none 0 0) [] (lyr F S d).2 (((srt (lyr F S d).1).take 0).flatMap F) 0 (.slice none 0 0) W2) := HQ.out.1.mid0 hf
        have HG : ∃ gl, Hid (Mid Da b1 b2 g N gs gv F V sv S W W2 bm nn o c gl (srt (lyr F S d).1) (lyr F S d).2) := HQ.out.1.mid hf hR2 HY.out.2.2.2.2.2.2.1 HY.out.2.2.2.2.2.2.2 HY.out.2.2.2.2.2.1 HN.out.1 HN.out.2.1 HN.out.2.2.1 HN.out.2.2.2.2.1 HP.out
        obtain ⟨gl, HG⟩ := HG
        have HF := mkHid (And.intro hf (And.intro hX' hJ2))
        clear hf hX' hJ2 hR2 hR hy
        gi_wp2
        gi_loopw [23, 6] (fun iv nv wr2 => ∃ (i ni cn : Nat) (on : Option Addr), iv = .int .i64 (i : Int) ∧ nv = .slice on ni cn ∧ i ≤ nn ∧ Hid (FrI W2 W2.heap.size bm (.slice none 0 0) [] (lyr F S d).2 (((srt (lyr F S d).1).take i).flatMap F) ni (.slice on ni cn) wr2)) (fun iv _ _ => nn - (intOf iv).toNat)
        case atStart => exact ⟨0, 0, 0, none, rfl, rfl, Nat.zero_le _, HT⟩
        case round =>
          obtain ⟨i, ni, cn, on, rfl, rfl, hi, HI2⟩ := hrel
          by_cases hlt2 : i < nn
          · have i1 := ltI hlt2
            have i0 := geI i
            obtain ⟨off, x, ov, mv, cv, rfl, e1, hx, e2, e3, C⟩ := HG.out.step hlt2 HI2.out
            have C2 := of_cell wr e3 hx
            unfold nOf at e2
            have hw1 := wrapI i (by
              have h1 := HQ.out.2.2
              have h2 := lyr_sum (nd := F) (S := S) d
              have h3 := nodup_len N _ HG.out.mn HG.out.ml
              have h4 := HG.out.hN
              omega)
            clear e3
            gi_wp2
            refine ⟨trivial, fun h => (by cases h), callsIn_wide.2 (C2.mono ?_)⟩
            rintro e w' ⟨rfl, rfl⟩
            gi_wp2
            refine ⟨trivial, fun h => (by cases h), callsIn_wide.2 (C.mono ?_)⟩
            rintro e w' ⟨oj, nj, cj, rfl, h3⟩
            have H3 := mkHid h3
            clear h3 C C2
            gi_wp2
            go_roundw
            case rel => exact ⟨i + 1, nj, cj, oj, by simp [hw1], rfl, hlt2, H3⟩
            case measure => rw [hw1]; exact measI _ _ hlt2
          · have i1 := nltI hlt2
            have H4 : Hid (∃ X1, Sta F S W X0 bm (d + 1) (.slice on ni cn) X1 wr ∧ J (d + 1) X1 wr) := by
              have hin : i = nn := eqI hi hlt2
              have h5 := HI2.out
              have hl := HG.out.len
              rw [hin, ← hl, List.take_length] at h5
              obtain ⟨hf, hX', hJ2⟩ := HF.out
              have hs' := HQ.out.1.next hf hX' h5
              refine ⟨X', hs', HY.out.1 (d + 1) X' W2 wr hJ2 ⟨h5.frm.os, h5.frm.tape, h5.frm.output, h5.frm.size, fun k hk hx => h5.frm.blk k hk (fun q => ?_)⟩⟩
              rcases q with q | q
              · rcases hx with hx | hx
                · have := HQ.out.1.bm0
                  omega
                · exact hs'.bmX (q ▸ hx)
              · cases q
            gi_wp2
            go_roundw
            case rel => exact ⟨on, ni, cn, rfl, d + 1, hlt, H4.out⟩
            case measure => exact msr_less HQ.out.2.1 hlt H4.out
      · have HE : Hid (∃ X : Nat → Prop, (∀ k, X k → X0 k ∨ W.heap.size ≤ k) ∧ Rm.Frm X0 W W2 ∧ Jx X W2) := ⟨X', (HQ.out.1.after hf hX').1, (HQ.out.1.after hf hX').2, hJx2⟩
        clear hf hX' hJx2 hR hy
        gi_wp2
        go_end0
        obtain ⟨X1, q1, q2, q3⟩ := HE.out
        exact ⟨⟨_, rfl⟩, X1, q1, q2, .inr q3⟩
    · have hdK : d = K := by omega
      subst hdK
      have h0n : nn = 0 := by
        rw [hnn, HN.out.2.2.2.2.2.1]
        rfl
      subst h0n
      have HE : Hid (∃ X : Nat → Prop, (∀ k, X k → X0 k ∨ W.heap.size ≤ k) ∧ Rm.Frm X0 W wr ∧ J d X wr) := ⟨X, hs.grw, hs.frm, hj⟩
      clear hs hj hms hnn
      gi_wp2
      refine ⟨fun _ h => (by cases h), ?_⟩
      gi_wp2
      go_end0
      obtain ⟨X1, q1, q2, q3⟩ := HE.out
      exact ⟨⟨_, rfl⟩, X1, q1, q2, .inl q3⟩
end Go.Proofs.Ytgedmfcfhdfoeaa
