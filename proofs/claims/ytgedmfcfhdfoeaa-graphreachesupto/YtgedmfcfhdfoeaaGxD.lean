/- The search by layers: what its closure reads, and how it stands between two rounds. -/
import Derived.Test.YtgedmfcfhdfoeaaJaB
namespace Go.Proofs.Ytgedmfcfhdfoeaa
open Go.RowKit GM
set_option maxRecDepth 20000
/-- What a node needs, as a method's value. -/
def nOf (g N : Nat) : Value := .func (.func 48) #[.slice (some ⟨g, 0, none⟩) N N] #[]
/-- What the closure reads: the boxes of the starts and of the needs, the lists themselves; all in blocks of Da. -/
structure Lys (Da : Nat → Prop) (b1 b2 g N gs : Nat) (gv : Nat → Nat) (F : Nat → List Nat) (V : Nat → Value) (sv : Value) (S : List Nat) (w : World) : Prop where
  c1 : w.cell? ⟨b1, 0, none⟩ = some sv
  c2 : w.cell? ⟨b2, 0, none⟩ = some (nOf g N)
  st : Il gs sv S w
  ro : ∀ v, v < N → w.cell? ⟨g, v, none⟩ = some (V v) ∧ Il (gv v) (V v) (F v) w
  d1 : Da b1
  d2 : Da b2
  ds : 0 < S.length → Da gs
  dg : Da g
  dv : ∀ v, v < N → 0 < (F v).length → Da (gv v)
theorem Il.keep0 {g : Nat} {v : Value} {l : List Nat} {w w' : World} (h : Il g v l w) (hs : w.heap.size ≤ w'.heap.size) (hb : 0 < l.length → w'.heap[g]? = w.heap[g]?) : Il g v l w' := by
  obtain ⟨o, c, e, h1⟩ := h
  refine ⟨o, c, e, fun hl => ?_⟩
  obtain ⟨off, e1, e2, e3⟩ := h1 hl
  exact ⟨off, e1, Nat.lt_of_lt_of_le e2 hs, fun j hj => (World.cell?_of_block (w := w) (a := ⟨g, off + j, none⟩) (hb hl)).trans (e3 j hj)⟩
section
variable {Da : Nat → Prop} {b1 b2 g N gs : Nat} {gv : Nat → Nat} {F : Nat → List Nat} {V : Nat → Value} {sv : Value} {S : List Nat} {w w' : World}
theorem Lys.keep (h : Lys Da b1 b2 g N gs gv F V sv S w) (hs : w.heap.size ≤ w'.heap.size) (hb : ∀ k, Da k → w'.heap[k]? = w.heap[k]?) : Lys Da b1 b2 g N gs gv F V sv S w' where
  c1 := (World.cell?_of_block (w := w) (a := ⟨b1, 0, none⟩) (hb b1 h.d1)).trans h.c1
  c2 := (World.cell?_of_block (w := w) (a := ⟨b2, 0, none⟩) (hb b2 h.d2)).trans h.c2
  st := h.st.keep0 hs fun hl => hb gs (h.ds hl)
  ro := fun v hv => ⟨(World.cell?_of_block (w := w) (a := ⟨g, v, none⟩) (hb g h.dg)).trans (h.ro v hv).1, (h.ro v hv).2.keep0 hs fun hl => hb _ (h.dv v hv hl)⟩
  d1 := h.d1
  d2 := h.d2
  ds := h.ds
  dg := h.dg
  dv := h.dv
end
/-- What a round is handed, the block that is handed over, and what it leaves there. -/
def LyV (F : Nat → List Nat) (S : List Nat) (i : Nat) (x : Array Value) (w : World) : Prop := ∃ v B n, x = #[v] ∧ w.ownsRow B 3 1 v n (ik (lyr F S i).1).toList
def LyH (x : Array Value) (k : Nat) : Prop := ∃ v, x = #[v] ∧ v.ownBlock = some k
def LyR (F : Nat → List Nat) (S : List Nat) (i : Nat) (x : Array Value) (w : World) : Prop := ∃ v B n, x = #[v] ∧ w.ownsRow B 3 1 v n (ik (srt (lyr F S i).1)).toList
theorem LyV.put {F : Nat → List Nat} {S : List Nat} {i : Nat} {x : Array Value} {w : World} {l : Nat} {o o' : Obj} (h : LyV F S i x w) (hl : w.heap[l]? = some o) (ho : o.isCells = false) : LyV F S i x (w.putObj l o') := by
  obtain ⟨v, B, n, e, h1⟩ := h
  refine ⟨v, B, n, e, own_keep2 h1 fun k hk => World.putObj_heap_other fun q => ?_⟩
  obtain ⟨c, hc⟩ := own_tyI h1 hk
  rw [q, hl] at hc
  injection hc with hc
  subst hc
  cases ho
theorem LyR.put {F : Nat → List Nat} {S : List Nat} {i : Nat} {x : Array Value} {w : World} {l : Nat} {o o' : Obj} (h : LyR F S i x w) (hl : w.heap[l]? = some o) (ho : o.isCells = false) : LyR F S i x (w.putObj l o') := by
  obtain ⟨v, B, n, e, h1⟩ := h
  refine ⟨v, B, n, e, own_keep2 h1 fun k hk => World.putObj_heap_other fun q => ?_⟩
  obtain ⟨c, hc⟩ := own_tyI h1 hk
  rw [q, hl] at hc
  injection hc with hc
  subst hc
  cases ho
/-- Between two rounds. -/
structure Sta (F : Nat → List Nat) (S : List Nat) (W : World) (X0 : Nat → Prop) (bm d : Nat) (lv : Value) (X : Nat → Prop) (wr : World) : Prop where
  own : ∃ B, wr.ownsRow B 3 1 lv (lyr F S d).1.length (ik (lyr F S d).1).toList
  blk : ∀ k, lv.ownBlock = some k → W.heap.size ≤ k ∧ ¬ X k
  mks : Mks wr bm (lyr F S d).2
  bm0 : W.heap.size ≤ bm
  bmX : ¬ X bm
  frm : Rm.Frm X0 W wr
  grw : ∀ k, X k → X0 k ∨ W.heap.size ≤ k
  lim : ∀ k, X k → k < wr.heap.size
/-- appendFresh of two lists, one behind the other. -/
theorem FrI.join {w wr w1 : World} {B b ni nj : Nat} {LV0 lv lv' : Value} {M A vs : List Nat} (h : FrI w B b LV0 [] M A ni lv wr) (h2 : FrI wr B b lv (frs M A).1 (frs M A).2 vs nj lv' w1) : FrI w B b LV0 [] M (A ++ vs) nj lv' w1 := by
  have e := frs_app A vs M
  refine ⟨?_, ?_, ?_, ⟨h2.frm.os.trans h.frm.os, h2.frm.tape.trans h.frm.tape, h2.frm.output.trans h.frm.output, Nat.le_trans h.frm.size h2.frm.size, fun k hk hx => ?_⟩, fun k hk => ?_⟩
  · rw [h2.len, e]
    simp
  · rw [e]
    have := h2.own
    rwa [List.nil_append]
  · rw [e]
    exact h2.mks
  · refine (h2.frm.blk k (Nat.lt_of_lt_of_le hk h.frm.size) (fun q => ?_)).trans (h.frm.blk k hk hx)
    rcases q with q | q
    · exact hx (.inl q)
    · rcases h.new k q with q | q
      · exact hx (.inr q)
      · omega
  · rcases h2.new k hk with q | q
    · exact h.new k q
    · have := h.frm.size
      exact .inr (by omega)
/-- The least of what is left, of all that fits. -/
noncomputable def msr (K : Nat) (p : Nat → Prop) : Nat := Classical.epsilon fun m => (∃ d, d ≤ K ∧ p d ∧ m = K - d) ∧ ∀ d, d ≤ K → p d → m ≤ K - d
theorem msr_spec {K : Nat} {p : Nat → Prop} (h : ∃ d, d ≤ K ∧ p d) : (∃ d, d ≤ K ∧ p d ∧ msr K p = K - d) ∧ ∀ d, d ≤ K → p d → msr K p ≤ K - d := by
  have := Classical.epsilon_spec (p := fun m => (∃ d, d ≤ K ∧ p d ∧ m = K - d) ∧ ∀ d, d ≤ K → p d → m ≤ K - d) (by
    obtain ⟨d, hd, hp⟩ := h
    obtain ⟨m, -, ⟨d1, h1, h2, h3⟩, h4⟩ := least_of (p := fun m => ∃ d, d ≤ K ∧ p d ∧ m = K - d) (K - d) ⟨K - d, Nat.le_refl _, d, hd, hp, rfl⟩
    refine ⟨m, ⟨d1, h1, h2, h3⟩, fun d2 h5 h6 => ?_⟩
    by_cases q : K - d2 < m
    · exact absurd ⟨d2, h5, h6, rfl⟩ (h4 _ q)
    · omega)
  exact this
/-- A round: its state, and the asker's. -/
def Rnd (F : Nat → List Nat) (S : List Nat) (W : World) (X0 : Nat → Prop) (bm : Nat) (J : Nat → (Nat → Prop) → World → Prop) (d : Nat) (lv : Value) (wr : World) : Prop := ∃ X, Sta F S W X0 bm d lv X wr ∧ J d X wr
theorem msr_less {K d : Nat} {p q : Nat → Prop} (h1 : msr K p = K - d) (hd : d < K) (h : q (d + 1)) : msr K q < msr K p := by
  have := (msr_spec (p := q) (K := K) ⟨d + 1, hd, h⟩).2 (d + 1) hd h
  omega
/-- In the midst of a round: what lies while the next layer is laid. -/
structure Mid (Da : Nat → Prop) (b1 b2 g N gs : Nat) (gv : Nat → Nat) (F : Nat → List Nat) (V : Nat → Value) (sv : Value) (S : List Nat) (W W2 : World) (bm nn : Nat) (o : Option Addr) (c gl : Nat) (T M : List Nat) : Prop where
  len : T.length = nn
  lt : ∀ x ∈ T, x < N
  row : Il gl (.slice o nn c) T W2
  gb : gl ≠ bm
  lys : Lys Da b1 b2 g N gs gv F V sv S W2
  da : ∀ k, Da k → k < W.heap.size
  bm0 : W.heap.size ≤ bm
  bm1 : bm < W2.heap.size
  hN : N ≤ 10000000
  hF : ∀ v, v < N → ∀ x ∈ F v, x < N
  hFl : ∀ v, v < N → (F v).length < 10000000
  mn : M.Nodup
  ml : ∀ x ∈ M, x < N
theorem Mid.step {Da : Nat → Prop} {b1 b2 g N gs : Nat} {gv : Nat → Nat} {F : Nat → List Nat} {V : Nat → Value} {sv : Value} {S : List Nat} {W W2 wr : World} {bm nn c gl i ni : Nat} {o : Option Addr} {nv : Value} {T M : List Nat}
    (h : Mid Da b1 b2 g N gs gv F V sv S W W2 bm nn o c gl T M) (hi : i < nn) (hf : FrI W2 W2.heap.size bm (.slice none 0 0) [] M ((T.take i).flatMap F) ni nv wr) :
    ∃ (off x : Nat) (ov : Option Addr) (mv cv : Nat), o = some ⟨gl, off, none⟩ ∧ wr.cell? ⟨gl, off + i, none⟩ = some (.int .i64 (x : Int)) ∧ x < N ∧ wr.cell? ⟨b2, 0, none⟩ = some (nOf g N) ∧ wr.cell? ⟨g, x, none⟩ = some (.slice ov mv cv) ∧
      Calls Try.prog 72 #[nv, .slice ov mv cv, .map (some bm)] wr fun e w' => ∃ oj nj cj, e = .returned (.slice oj nj cj) ∧ FrI W2 W2.heap.size bm (.slice none 0 0) [] M ((T.take (i + 1)).flatMap F) nj (.slice oj nj cj) w' := by
  have hiT : i < T.length := by rw [h.len]; exact hi
  have kp : ∀ k, k < W2.heap.size → k ≠ bm → wr.heap[k]? = W2.heap[k]? := fun k hk hx => hf.frm.blk k hk (fun q => q.elim hx (fun q => by cases q))
  have hda : ∀ k, Da k → k < W2.heap.size ∧ k ≠ bm := fun k hk => ⟨by have := h.da k hk; have := h.bm0; have := h.bm1; omega, by have := h.da k hk; have := h.bm0; omega⟩
  have hL := h.lys.keep hf.frm.size (fun k hk => kp k (hda k hk).1 (hda k hk).2)
  obtain ⟨o2, c2, e2, h2⟩ := h.row
  injection e2 with e2 e3 e4
  subst e2 e4
  obtain ⟨off, eo, hg, hc⟩ := h2 (by omega)
  have hx : T.getD i 0 < N := h.lt _ (by rw [List.getD_eq_getElem?_getD, List.getElem?_eq_getElem hiT]; exact List.getElem_mem hiT)
  obtain ⟨r1, r2⟩ := hL.ro _ hx
  obtain ⟨ov, cv, ev, -⟩ := id r2
  have hmn := frs_nodup ((T.take i).flatMap F) M h.mn
  have hml : ∀ x ∈ (frs M ((T.take i).flatMap F)).2, x < N := fun x hx => by
    rcases (frs_mem _ _ _).1 hx with q | q
    · exact h.ml x q
    · obtain ⟨v, q1, q2⟩ := List.mem_flatMap.1 q
      exact h.hF v (h.lt v (List.mem_of_mem_take q1)) x q2
  have hlen := nodup_len N _ hmn hml
  have hlen2 := frs_len ((T.take i).flatMap F) M
  have hvl := h.hFl _ hx
  have hN := h.hN
  have ho := hf.own
  rw [List.nil_append] at ho
  have hl := hf.len
  simp only [List.length_nil, Nat.zero_add] at hl
  rw [hl] at ho
  have C := fresh_any wr (B := W2.heap.size) (b := bm) (g := gv (T.getD i 0)) (lv := nv) (vv := V (T.getD i 0)) (L := (frs M ((T.take i).flatMap F)).1) (vs := F (T.getD i 0)) (M := (frs M ((T.take i).flatMap F)).2) ho hf.frm.size r2 hf.mks (fun hp => by
      have := hda _ (hL.dv _ hx hp)
      refine ⟨this.2, fun q => ?_⟩
      rcases hf.new _ q with q | q
      · cases q
      · omega) (fun x hx2 => by have := h.hF _ hx x hx2; omega) (by omega) (by omega)
  refine ⟨off, T.getD i 0, ov, _, cv, eo, (World.cell?_of_block (w := W2) (a := ⟨gl, off + i, none⟩) (kp gl hg h.gb)).trans (hc i hiT), hx, hL.c2, by rw [r1, ev], ?_⟩
  rw [← ev]
  refine C.mono ?_
  rintro e w' ⟨nj, lv', rfl, h3⟩
  obtain ⟨oj, cj, ej⟩ := own_size h3.own
  subst ej
  refine ⟨oj, nj, cj, rfl, ?_⟩
  rw [take_snocN hiT, List.flatMap_append, List.flatMap_singleton]
  exact hf.join h3
section
variable {F : Nat → List Nat} {S : List Nat} {W wr W2 w1 : World} {X0 X X' : Nat → Prop} {bm d ni : Nat} {lv nv : Value}
/-- The round's end. -/
theorem Sta.next (h : Sta F S W X0 bm d lv X wr) (hf : Rm.Frm (fun k => X k ∨ LyH #[lv] k) wr W2) (hX : ∀ k, X' k → (X k ∨ wr.heap.size ≤ k) ∧ k < W2.heap.size)
    (hn : FrI W2 W2.heap.size bm (.slice none 0 0) [] (lyr F S d).2 ((srt (lyr F S d).1).flatMap F) ni nv w1) : Sta F S W X0 bm (d + 1) nv X' w1 := by
  have hs := h.frm.size
  have hbm := h.mks.lt
  have hbX : ¬ X' bm := fun q => by
    rcases (hX bm q).1 with q | q
    · exact h.bmX q
    · omega
  refine ⟨⟨W2.heap.size, ?_⟩, fun k hk => ?_, hn.mks, h.bm0, hbX, ⟨?_, ?_, ?_, ?_, fun k hk hx => ?_⟩, fun k hk => ?_, fun k hk => ?_⟩
  · have := hn.own
    have e := hn.len
    rw [List.nil_append] at this
    simp only [List.length_nil, Nat.zero_add] at e
    rw [e] at this
    exact this
  · rcases hn.new k hk with q | q
    · cases q
    · have := hf.size
      exact ⟨by omega, fun q2 => by have := (hX k q2).2; omega⟩
  · exact hn.frm.os.trans (hf.os.trans h.frm.os)
  · exact hn.frm.tape.trans (hf.tape.trans h.frm.tape)
  · exact hn.frm.output.trans (hf.output.trans h.frm.output)
  · exact Nat.le_trans hs (Nat.le_trans hf.size hn.frm.size)
  · refine (hn.frm.blk k (by have := hf.size; omega) (fun q => ?_)).trans ((hf.blk k (by omega) (fun q => ?_)).trans (h.frm.blk k hk hx))
    · rcases q with q | q
      · have := h.bm0
        omega
      · cases q
    · rcases q with q | ⟨v, e, q⟩
      · rcases h.grw k q with q | q
        · exact hx q
        · omega
      · injection e with e
        injection e with e
        subst e
        have := (h.blk k q).1
        omega
  · rcases (hX k hk).1 with q | q
    · exact h.grw k q
    · exact .inr (by omega)
  · exact Nat.lt_of_lt_of_le (hX k hk).2 hn.frm.size
/-- The round was broken off. -/
theorem Sta.after (h : Sta F S W X0 bm d lv X wr) (hf : Rm.Frm (fun k => X k ∨ LyH #[lv] k) wr W2) (hX : ∀ k, X' k → (X k ∨ wr.heap.size ≤ k) ∧ k < W2.heap.size) : (∀ k, X' k → X0 k ∨ W.heap.size ≤ k) ∧ Rm.Frm X0 W W2 := by
  have hs := h.frm.size
  refine ⟨fun k hk => ?_, hf.os.trans h.frm.os, hf.tape.trans h.frm.tape, hf.output.trans h.frm.output, Nat.le_trans hs hf.size, fun k hk hx => (hf.blk k (by omega) (fun q => ?_)).trans (h.frm.blk k hk hx)⟩
  · rcases (hX k hk).1 with q | q
    · exact h.grw k q
    · exact .inr (by omega)
  · rcases q with q | ⟨v, e, q⟩
    · rcases h.grw k q with q | q
      · exact hx q
      · omega
    · injection e with e
      injection e with e
      subst e
      have := (h.blk k q).1
      omega
theorem Sta.size {o : Option Addr} {nn c : Nat} (h : Sta F S W X0 bm d (.slice o nn c) X wr) : nn = (lyr F S d).1.length := by
  obtain ⟨B, h1⟩ := h.own
  obtain ⟨o2, c2, e⟩ := own_size h1
  injection e
/-- Marks stay while the asker is at work. -/
theorem Sta.mks2 (h : Sta F S W X0 bm d lv X wr) (hf : Rm.Frm (fun k => X k ∨ LyH #[lv] k) wr W2) : Mks W2 bm (lyr F S d).2 := by
  refine h.mks.keep (hf.blk bm h.mks.lt fun q => ?_)
  rcases q with q | ⟨v, e, q⟩
  · exact h.bmX q
  · injection e with e
    injection e with e
    subst e
    obtain ⟨B, h1⟩ := h.own
    obtain ⟨C, hC⟩ := own_tyI h1 q
    exact h.mks.row hC rfl
theorem Sta.mid0 (h : Sta F S W X0 bm d lv X wr) (hf : Rm.Frm (fun k => X k ∨ LyH #[lv] k) wr W2) : FrI W2 W2.heap.size bm (.slice none 0 0) [] (lyr F S d).2 (((srt (lyr F S d).1).take 0).flatMap F) 0 (.slice none 0 0) W2 :=
  ⟨by simp [frs], by simpa [frs, ik] using World.ownsRow_nil W2 W2.heap.size 3 1, by simpa [frs] using h.mks2 hf, Rm.Frm.refl _ _, fun k h => by cases h⟩
theorem Sta.mid {Da : Nat → Prop} {b1 b2 g N gs nn c : Nat} {o : Option Addr} {gv : Nat → Nat} {V : Nat → Value} {sv : Value} (h : Sta F S W X0 bm d (.slice o nn c) X wr) (hf : Rm.Frm (fun k => X k ∨ LyH #[.slice o nn c] k) wr W2) (hR : LyR F S d #[.slice o nn c] W2)
    (hL : Lys Da b1 b2 g N gs gv F V sv S W) (hDa : ∀ k, Da k → k < W.heap.size) (hX1 : ∀ k, X0 k → ¬ Da k) (hN : N ≤ 10000000) (hS : ∀ x ∈ S, x < N) (hF : ∀ v, v < N → ∀ x ∈ F v, x < N) (hFl : ∀ v, v < N → (F v).length < 10000000) (hp : 0 < nn) :
    ∃ gl, Mid Da b1 b2 g N gs gv F V sv S W W2 bm nn o c gl (srt (lyr F S d).1) (lyr F S d).2 := by
  obtain ⟨v, B, n, e, h1⟩ := hR
  injection e with e
  injection e with e
  subst e
  have hn : nn = (srt (lyr F S d).1).length := by
    rw [srt_len]
    exact h.size
  have hnn : n = (srt (lyr F S d).1).length := by
    obtain ⟨h2, -⟩ := h1
    simpa [ik] using h2.symm
  subst hnn
  obtain ⟨gl, hI, hg⟩ := own_il h1
  have hg := (hg (by rw [← hn]; exact hp)).2
  have lt := lyr_lt hS hF d
  have hm := h.mks2 hf
  refine ⟨gl, hn.symm, fun x hx => lt.2 x ((srt_mem _ _).1 hx), hI, fun q => ?_, hL.keep (Nat.le_trans h.frm.size hf.size) (fun k hk => ?_), hDa, h.bm0, hm.lt, hN, hF, hFl, lyr_nodup d, lt.1⟩
  · obtain ⟨C, hC⟩ := own_tyI h1 hg
    exact hm.row hC q.symm
  · have h1 := hDa k hk
    refine (hf.blk k (Nat.lt_of_lt_of_le h1 h.frm.size) (fun q => ?_)).trans (h.frm.blk k h1 (fun q => hX1 k q hk))
    rcases q with q | ⟨v, e, q⟩
    · rcases h.grw k q with q | q
      · exact hX1 k q hk
      · omega
    · injection e with e
      injection e with e
      subst e
      have := (h.blk k q).1
      omega
end
end Go.Proofs.Ytgedmfcfhdfoeaa
