/- Several texts in one: JcR, JcS. -/
import Derived.Test.YtfimaflglnemdaaDoorJcQ
import Derived.Test.YtfimaflglnemdaaDoorJdW
/- JournalCrash: what Replay tells of a moment's disk; a life that may be asked. -/
namespace Go.Proofs.YtfimaflglnemdaaDoor
open Go.RowKit
open JM
set_option maxRecDepth 20000
namespace Dev
namespace Cr
theorem Dsk.uniq {N : Nat} {a b : Bk} {y : Sp} (h : Dsk N a y) (h' : Dsk N b y) (hl : Lim y) : a = b := by
  have l0 : y.1.1.length ≤ 67108864 := Nat.le_trans hl.1 (by omega)
  have l1 : y.2.1.length ≤ 67108864 := Nat.le_trans hl.2 (by omega)
  rcases h with ⟨h, rfl⟩ | ⟨live, gen, first, base, bs, h, rfl, -, -⟩
  · rcases h' with ⟨-, rfl⟩ | ⟨live', gen', first', base', bs', h', rfl, -, -⟩
    · rfl
    · obtain ⟨p, q⟩ := h'.rep l0 l1
      rw [h.rep] at q
      cases q
  · obtain ⟨p, q⟩ := h.rep l0 l1
    rcases h' with ⟨h', rfl⟩ | ⟨live', gen', first', base', bs', h', rfl, -, -⟩
    · rw [h'.rep] at q
      cases q
    · obtain ⟨p', q'⟩ := h'.rep l0 l1
      rw [q] at q'
      injection q' with _ q'
      injection q' with _ _ _ _ e1 e2 e3 _
      subst e1 e2 e3
      rfl
theorem Hst.some {N at_ : Nat} {sp : List Sp} {cs : List Nat} {bks : List Bk} {z : Sp} (h : Hst N sp cs bks) (hz : sp[at_]? = some z) (k0 k1 : Nat) : ∃ bk, Dsk N bk (crash z k0 k1) := by
  have hlen := h.len
  have hpos := h.pos
  have key : ∀ n, n < cs.length → (∀ i, i ≤ n → 0 < i → ∃ c, cs[i]? = Option.some c ∧ c ≤ at_) → ∃ done, done < cs.length ∧ (done = 0 ∨ ∃ c, cs[done]? = Option.some c ∧ c ≤ at_) ∧ (done + 1 = cs.length ∨ ∃ d, cs[done + 1]? = Option.some d ∧ at_ < d) := by
    intro n hn
    obtain ⟨m, hm⟩ : ∃ m, cs.length - 1 - n = m := ⟨_, rfl⟩
    induction m generalizing n with
    | zero =>
      intro hc
      refine ⟨n, hn, ?_, .inl (by omega)⟩
      by_cases q : n = 0
      · exact .inl q
      · exact .inr (hc n (Nat.le_refl _) (by omega))
    | succ m ih =>
      intro hc
      obtain ⟨d, hd⟩ : ∃ d, cs[n + 1]? = Option.some d := ⟨_, List.getElem?_eq_getElem (by omega)⟩
      by_cases q : d ≤ at_
      · refine ih (n + 1) (by omega) (by omega) (fun i hi h0 => ?_)
        by_cases e : i = n + 1
        · subst e
          exact ⟨d, hd, q⟩
        · exact hc i (by omega) h0
      · refine ⟨n, hn, ?_, .inr ⟨d, hd, by omega⟩⟩
        by_cases q : n = 0
        · exact .inl q
        · exact .inr (hc n (Nat.le_refl _) (by omega))
  obtain ⟨done, h0, h1, h2⟩ := key 0 hpos (fun i hi h0 => by omega)
  obtain ⟨a, ha⟩ : ∃ a, bks[done]? = Option.some a := ⟨_, List.getElem?_eq_getElem (by omega)⟩
  rcases h.told hz ha h1 h2 k0 k1 with q | ⟨_, b, _, _, _, _, q⟩
  · exact ⟨a, q⟩
  · exact ⟨b, q⟩
theorem Hst.bnd {N : Nat} {sp : List Sp} {cs : List Nat} {bks : List Bk} (h : Hst N sp cs bks) {i : Nat} {b : Bk} (hb : bks[i]? = Option.some b) : Gl b.base ∧ (∀ x ∈ b.batches, Gl x) ∧ b.batches.length ≤ 1000000 ∧ b.last ≤ 1000000 := by
  have hlen := h.len
  have hi := (List.getElem?_eq_some_iff.1 hb).1
  obtain ⟨c, hc⟩ : ∃ c, cs[i]? = Option.some c := ⟨_, List.getElem?_eq_getElem (by omega)⟩
  have hl := h.le i c hc
  exact (h.here i _ c b hc hb (List.getElem?_eq_getElem hl) 0 0).bnd
/-- A story as it was told. -/
def Tld (B : Nat) (w : World) (bk : Bk) (c : Array Value) : Prop :=
  (c = #[.int .i64 (-1), .int .i64 0, .int .i64 0, .int .i64 0, .slice none 0 0, .slice none 0 0] ∧ bk = ⟨[], [], 0⟩) ∨ ∃ (live good gen first : Nat) (t4 t5 : Value), c = styA live good gen first t4 t5 ∧ Ll B w t4 bk.base ∧ Lb B w t5 bk.batches ∧ bk.last = first - 1 + bk.batches.length ∧ 1 ≤ first ∧ first + bk.batches.length ≤ 1000000
theorem Tld.below {B : Nat} {w w' : World} {bk : Bk} {c : Array Value} (h : Tld B w bk c) (hb : Below w.heap.size w w') : Tld B w' bk c := by
  rcases h with h | ⟨live, good, gen, first, t4, t5, h1, h2, h3, h4⟩
  · exact .inl h
  · exact .inr ⟨live, good, gen, first, t4, t5, h1, h2.keep (stay_below hb), h3.keep (stay_below hb), h4⟩
theorem Tld.form {B : Nat} {w : World} {bk : Bk} {c : Array Value} (h : Tld B w bk c) : ∃ (a0 a1 a2 a3 : Int) (p4 p5 : Option Addr) (n4 n5 q4 q5 : Nat), c = #[.int .i64 a0, .int .i64 a1, .int .i64 a2, .int .i64 a3, .slice p4 n4 q4, .slice p5 n5 q5] := by
  rcases h with ⟨rfl, -⟩ | ⟨live, good, gen, first, t4, t5, rfl, h2, h3, -⟩
  · exact ⟨_, _, _, _, _, _, _, _, _, _, rfl⟩
  · obtain ⟨_, _, rfl⟩ := h2.sl
    obtain ⟨_, _, rfl⟩ := h3.sl
    exact ⟨_, _, _, _, _, _, _, _, _, _, rfl⟩
theorem replay_dsk (W : World) {v0 v1 : Value} {y : Sp} (h0 : Bl W v0 y.1.1) (h1 : Bl W v1 y.2.1) (hT : Tc W) {N : Nat} {bk : Bk} (hl : Lim y) (hd : Dsk N bk y) :
    Calls Tryd.prog 28 #[.agg #[v0, v1]] W fun e w' => ∃ c, e = .returned (.tuple #[.agg c, .int .i64 0, .int .i64 0, .int .i64 0]) ∧ Tld W.heap.size w' bk c ∧ Below W.heap.size W w' := by
  have l0 : y.1.1.length ≤ 67108864 := Nat.le_trans hl.1 (by omega)
  have l1 : y.2.1.length ≤ 67108864 := Nat.le_trans hl.2 (by omega)
  rcases hd with ⟨h, rfl⟩ | ⟨live, gen, first, base, bs, h, rfl, -, -⟩
  · refine (replay_none W h0 h1 hT h.rep).mono ?_
    rintro e w' ⟨e1, e2⟩
    exact ⟨_, e1, .inl ⟨rfl, rfl⟩, e2⟩
  · obtain ⟨p, q⟩ := h.rep l0 l1
    refine (replay_story W h0 h1 hT q).mono ?_
    rintro e w' ⟨t4, t5, e1, e2, e3, e4⟩
    exact ⟨_, e1, .inr ⟨live, _, gen, first, t4, t5, rfl, e2, e3, rfl, h.f1, h.f2⟩, e4⟩
theorem holds_told (W : World) {B B' : Nat} {u0 u1 : Value} {b bk : Bk} {c : Array Value} {r : Bool} (h4 : Ll B W u0 b.base) (h5 : Lb B W u1 b.batches) (hb : Gl b.base ∧ (∀ x ∈ b.batches, Gl x) ∧ b.batches.length ≤ 1000000 ∧ b.last ≤ 1000000) (ht : Tld B' W bk c) (hr : r = true ↔ b = bk) :
    Calls Tryd.prog 38 #[.agg (bkA u0 u1 b.last), .agg c] W fun e w' => e = .returned (.bool r) ∧ Below W.heap.size W w' := by
  obtain ⟨base, bs, last⟩ := b
  dsimp only at h4 h5 hb ⊢
  rcases ht with ⟨rfl, rfl⟩ | ⟨live, good, gen, first, t4, t5, rfl, k4, k5, k6, k7, k8⟩
  · refine (holds_none W h4 h5).mono ?_
    rintro e w' ⟨e1, e2⟩
    refine ⟨?_, e2⟩
    rw [e1]
    congr 2
    rw [Bool.eq_iff_iff, hr, decide_eq_true_iff]
    constructor
    · rintro ⟨rfl, rfl, rfl⟩
      rfl
    · intro h
      injection h with h1 h2 h3
      exact ⟨h1, h2, h3⟩
  · obtain ⟨base', bs', last'⟩ := bk
    dsimp only at k4 k5 k6 k8
    have g1 := hb.1.n
    refine (holds_any (i := live) (good := good) (gen := gen) W h4 h5 k4 k5 (by omega) (fun x hx => by have := (hb.2.1 x hx).n; omega) k7 (by omega) (by omega)).mono ?_
    rintro e w' ⟨e1, e2⟩
    refine ⟨?_, e2⟩
    rw [e1]
    congr 2
    rw [Bool.eq_iff_iff, hr, decide_eq_true_iff]
    constructor
    · rintro ⟨rfl, rfl, h⟩
      rw [k6, ← h]
    · intro h
      injection h with h1 h2 h3
      exact ⟨h1, h2, by rw [h3, k6]⟩
/-- A life that may be asked. -/
structure Lft [Inhabited HoleT] (B : Nat) (w : World) (lo v N : Nat) (sp : List Sp) (cs : List Nat) (bks : List Bk) (gc gb : Nat) : Prop where
  dv : ∃ lv f ms, Dv lo w v lv f ms sp
  hst : Hst N sp cs bks
  cc : ∀ (i c : Nat), cs[i]? = some c → w.cell? ⟨gc, i, none⟩ = some (.int .i64 (c : Int))
  cb : ∀ (i : Nat) (b : Bk), bks[i]? = some b → ∃ (o0 o1 : Option Addr) (c0 c1 : Nat), w.cell? ⟨gb, i * 3, none⟩ = some (.slice o0 b.base.length c0) ∧ w.cell? ⟨gb, i * 3 + 1, none⟩ = some (.slice o1 b.batches.length c1) ∧ w.cell? ⟨gb, i * 3 + 2, none⟩ = some (.int .i64 (b.last : Int)) ∧ Ll B w (.slice o0 b.base.length c0) b.base ∧ Lb B w (.slice o1 b.batches.length c1) b.batches
  tc : Tc w
  few : sp.length ≤ 1000
  cfew : cs.length ≤ 1000
theorem Lft.below [Inhabited HoleT] {B : Nat} {w w' : World} {lo v N : Nat} {sp : List Sp} {cs : List Nat} {bks : List Bk} {gc gb : Nat} (h : Lft B w lo v N sp cs bks gc gb) (hb : Below w.heap.size w w') : Lft B w' lo v N sp cs bks gc gb := by
  obtain ⟨lv, f, ms, h1⟩ := h.dv
  refine ⟨⟨lv, f, ms, h1.below hb⟩, h.hst, fun i c hc => cell_below hb (h.cc i c hc), fun i b hb' => ?_, h.tc.below hb h.tc.sz, h.few, h.cfew⟩
  obtain ⟨o0, o1, c0, c1, e0, e1, e2, h4, h5⟩ := h.cb i b hb'
  exact ⟨o0, o1, c0, c1, cell_below hb e0, cell_below hb e1, cell_below hb e2, h4.keep (stay_below hb), h5.keep (stay_below hb)⟩
theorem own_cells {w : World} {B e sz n : Nat} {v : Value} {xs : List Value} (h : w.ownsRow B e sz v n xs) (hn : 0 < n) : ∃ g cap, v = .slice (some ⟨g, 0, none⟩) n cap ∧ ∀ (i : Nat) u, xs[i]? = some u → w.cell? ⟨g, i, none⟩ = some u := by
  rcases h.2 with ⟨-, h2⟩ | ⟨g, cap, cur, h1, h2, h3, h4, h5, h6, h7⟩
  · omega
  · refine ⟨g, cap, h1, fun i u hu => ?_⟩
    rw [← h7, List.getElem?_take] at hu
    split at hu
    · exact (cell_of_row _ _ _ _ _ _ h3).trans (by simpa using hu)
    · cases hu
theorem Lft.of {W w : World} {lo j v B N : Nat} {cv bv : Value} (h : LvX W lo j v B N cv bv w) : ∃ (sp : List Sp) (cs : List Nat) (bks : List Bk) (gc gb n cap1 cap2 : Nat), @Lft (hJ j) B w lo v (N + 30) sp cs bks gc gb ∧ cv = .slice (some ⟨gc, 0, none⟩) n cap1 ∧ bv = .slice (some ⟨gb, 0, none⟩) n cap2 ∧ cs.length = n ∧ Below W.heap.size W w := by
  obtain ⟨lim, i, L, hi, live, gen, first, base, bs, sp, u0, u1, rs, cs, bks, hP, hW, hBk, hHs, hcs, hbi, hspl⟩ := h
  obtain ⟨gc, cap1, e1, hc⟩ := own_cells hW.oc (by omega)
  obtain ⟨gb, cap2, e2, hb⟩ := own_cells hW.ob (by omega)
  refine ⟨sp, cs, bks, gc, gb, i + 1, cap1, cap2, ?_, e1, e2, hcs, hW.bel⟩
  letI := hJ j
  refine ⟨hP.jc.jh.dv, hHs.mono (by omega), fun k c hk => hc k _ (by rw [List.getElem?_map, hk]; rfl), fun k b hk => ?_, hP.jc.tc, by omega, by omega⟩
  obtain ⟨v0, v1, f0, f1, f2, h4, h5⟩ := hBk.2 k b hk
  obtain ⟨o0, c0, rfl⟩ := h4.sl
  obtain ⟨o1, c1, rfl⟩ := h5.sl
  exact ⟨o0, o1, c0, c1, hb _ _ f0, hb _ _ f1, hb _ _ f2, h4, h5⟩
end Cr
end Dev
end Go.Proofs.YtfimaflglnemdaaDoor

/- JournalCrash: the law's left. -/
namespace Go.Proofs.YtfimaflglnemdaaDoor
open Go.RowKit
open JM
set_option maxRecDepth 20000
namespace Dev
theorem results_DB {fn : Func} {p q u : Tmp} (h : fn.results = #[.cell p 26, .cell q 30, .tmp u]) (tmps : Array Value) (w : World) (g g2 : Nat) (C D : Array Value) (hC : C.size = 2) (hD : D.size = 3)
    (hp : tmps.getD p undef = .pointer (some ⟨g, 0, none⟩)) (hg : w.heap[g]? = some (.cells C 26 (0, 0)))
    (hq : tmps.getD q undef = .pointer (some ⟨g2, 0, none⟩)) (hg2 : w.heap[g2]? = some (.cells D 30 (0, 0))) :
    (results fn tmps).run Tryd.prog w = .ok (.tuple #[.agg C, .agg D, tmps.getD u undef]) w := by
  have hp' : tmps[p]?.getD undef = .pointer (some ⟨g, 0, none⟩) := by simpa using hp
  have hq' : tmps[q]?.getD undef = .pointer (some ⟨g2, 0, none⟩) := by simpa using hq
  simp [results, h, hp', hq', asAddr, run_loadVar_row w g 26 26 C (0, 0) _ hg Tryd.underlying26 rfl (by rw [sizeD, hC]), run_loadVar_row w g2 30 30 D (0, 0) _ hg2 Tryd.underlying30 rfl (by rw [sizeBk, hD])]
/-- The cells that left looks at. -/
abbrev SL (kd : Nat) (D0 D1 : Value) (ks : Nat) (a0 a1 a2 a3 : Int) (p4 p5 : Option Addr) (n4 n5 q4 q5 : Nat) (gb q : Nat) (y0 y1 : Value) (la : Int) (w : World) : Prop :=
  w.cell? ⟨kd, 0, none⟩ = some D0 ∧ w.cell? ⟨kd, 1, none⟩ = some D1 ∧ w.cell? ⟨ks, 0, none⟩ = some (.int .i64 a0) ∧ w.cell? ⟨ks, 1, none⟩ = some (.int .i64 a1) ∧ w.cell? ⟨ks, 2, none⟩ = some (.int .i64 a2) ∧ w.cell? ⟨ks, 3, none⟩ = some (.int .i64 a3) ∧ w.cell? ⟨ks, 4, none⟩ = some (.slice p4 n4 q4) ∧ w.cell? ⟨ks, 5, none⟩ = some (.slice p5 n5 q5) ∧ w.cell? ⟨gb, q, none⟩ = some y0 ∧ w.cell? ⟨gb, q + 1, none⟩ = some y1 ∧ w.cell? ⟨gb, q + 2, none⟩ = some (.int .i64 la)
section
variable {kd ks gb q : Nat} {D0 D1 y0 y1 : Value} {a0 a1 a2 a3 la : Int} {p4 p5 : Option Addr} {n4 n5 q4 q5 : Nat} {w w' : World}
theorem SL.below (h : SL kd D0 D1 ks a0 a1 a2 a3 p4 p5 n4 n5 q4 q5 gb q y0 y1 la w) (hb : Below w.heap.size w w') : SL kd D0 D1 ks a0 a1 a2 a3 p4 p5 n4 n5 q4 q5 gb q y0 y1 la w' := by
  obtain ⟨h0, h1, h2, h3, h4, h5, h6, h7, h8, h9, h10⟩ := h
  exact ⟨cell_below hb h0, cell_below hb h1, cell_below hb h2, cell_below hb h3, cell_below hb h4, cell_below hb h5, cell_below hb h6, cell_below hb h7, cell_below hb h8, cell_below hb h9, cell_below hb h10⟩
theorem cell_setR2 {w : World} {k : Nat} {D : Array Value} {a : Addr} {v : Value} (h : w.cell? a = some v) (hk : a.block ≠ k) : (w.setRow k D).cell? a = some v := (World.cell?_of_block (w := w) (a := a) (setRow_other _ _ _ _ hk)).trans h
theorem SL.set (h : SL kd D0 D1 ks a0 a1 a2 a3 p4 p5 n4 n5 q4 q5 gb q y0 y1 la w) {k : Nat} (D : Array Value) (b1 : kd ≠ k) (b2 : ks ≠ k) (b3 : gb ≠ k) : SL kd D0 D1 ks a0 a1 a2 a3 p4 p5 n4 n5 q4 q5 gb q y0 y1 la (w.setRow k D) := by
  obtain ⟨h0, h1, h2, h3, h4, h5, h6, h7, h8, h9, h10⟩ := h
  exact ⟨cell_setR2 h0 b1, cell_setR2 h1 b1, cell_setR2 h2 b2, cell_setR2 h3 b2, cell_setR2 h4 b2, cell_setR2 h5 b2, cell_setR2 h6 b2, cell_setR2 h7 b2, cell_setR2 h8 b3, cell_setR2 h9 b3, cell_setR2 h10 b3⟩
end
theorem bl_setR {w : World} {g n k : Nat} {D : Array Value} {l : List Nat} (h : Bl w (.slice (some ⟨g, 0, none⟩) n n) l) (hg : g ≠ k) : Bl (w.setRow k D) (.slice (some ⟨g, 0, none⟩) n n) l := by
  obtain ⟨oa', cap', e, k1, k2, k3, k4⟩ := h
  refine ⟨oa', cap', e, k1, k2, k3, fun j u hu => ?_⟩
  obtain ⟨g', o', e1, e2, e3⟩ := k4 j u hu
  refine ⟨g', o', e1, by rw [size_setRow]; exact e2, ?_⟩
  injection e with e _ _
  rw [e1] at e
  injection e with e
  injection e with e _ _
  exact cell_setR2 e3 (by show g' ≠ k; omega)
/-- What left answers. -/
def LfP (W : World) (z : Sp) (k0 k1 B N : Nat) (g0 n0 g1 n1 : Nat) (v0 v1 : Value) (la : Nat) (w' : World) : Prop :=
  ∃ b : Cr.Bk, Bl w' (.slice (some ⟨g0, 0, none⟩) n0 n0) (Cr.crash z k0 k1).1.1 ∧ Bl w' (.slice (some ⟨g1, 0, none⟩) n1 n1) (Cr.crash z k0 k1).2.1 ∧ Cr.Dsk N b (Cr.crash z k0 k1) ∧ Cr.Lim (Cr.crash z k0 k1) ∧ b.last = la ∧ Ll B w' v0 b.base ∧ Lb B w' v1 b.batches ∧ Below W.heap.size W w' ∧ W.heap.size ≤ g0 ∧ W.heap.size ≤ g1
attribute [local go_sem ↓] toStD toStBk in
set_option maxRecDepth 100000 in
set_option maxHeartbeats 6400000 in
theorem left_any [Inhabited HoleT] {B lo v N at_ kk0 kk1 n cap1 cap2 : Nat} {sp : List Sp} {cs : List Nat} {bks : List Cr.Bk} {gc gb : Nat} {z : Sp} (W : World) (h : Cr.Lft B W lo v N sp cs bks gc gb) (hn : cs.length = n) (hz : sp[at_]? = some z) (hk0 : kk0 < 9223372036854775808) (hk1 : kk1 < 9223372036854775808) :
    Calls Tryd.prog 10 #[.pointer (some ⟨v, 0, none⟩), .slice (some ⟨gc, 0, none⟩) n cap1, .slice (some ⟨gb, 0, none⟩) n cap2, .int .i64 (at_ : Int), .agg #[.int .i64 (kk0 : Int), .int .i64 (kk1 : Int)]] W fun e w' => ∃ g0 n0 g1 n1 v0 v1 la, e = .returned (.tuple #[.agg #[.slice (some ⟨g0, 0, none⟩) n0 n0, .slice (some ⟨g1, 0, none⟩) n1 n1], .agg #[v0, v1, .int .i64 ((la : Nat) : Int)], .bool true]) ∧ LfP W z kk0 kk1 B N g0 n0 g1 n1 v0 v1 la w' := by
  subst hn
  obtain ⟨V, hV⟩ : ∃ V, ((W.alloc (.cells #[.int .i64 (kk0 : Int), .int .i64 (kk1 : Int)] 34)).alloc (.cells #[.slice none 0 0, .slice none 0 0] 26)).alloc (.cells #[.slice none 0 0, .slice none 0 0, .int .i64 0] 30) = V := ⟨_, rfl⟩
  obtain ⟨r0, r1, r2, bV⟩ := row3 W (.cells #[.int .i64 (kk0 : Int), .int .i64 (kk1 : Int)] 34) (.cells #[.slice none 0 0, .slice none 0 0] 26) (.cells #[.slice none 0 0, .slice none 0 0, .int .i64 0] 30)
  have zV : V.heap.size = W.heap.size + 3 := by rw [← hV]; simp
  rw [hV] at r0 r1 r2 bV
  have c0 : V.cell? ⟨W.heap.size, 0, none⟩ = some (.int .i64 (kk0 : Int)) := (cell_of_row _ _ _ _ _ _ r0).trans rfl
  have c1 : V.cell? ⟨W.heap.size, 1, none⟩ = some (.int .i64 (kk1 : Int)) := (cell_of_row _ _ _ _ _ _ r0).trans rfl
  have hv := h.below bV
  obtain ⟨lv, f, ms, hdv⟩ := hv.dv
  have hlen := hdv.len
  have hfew := h.few
  have hcf := h.cfew
  have hat := (List.getElem?_eq_some_iff.1 hz).1
  obtain ⟨bk, hbk⟩ := h.hst.some hz kk0 kk1
  have hLm : Cr.Lim (Cr.crash z kk0 kk1) := Cr.Lim.crash (h.hst.lim z (List.mem_of_getElem? hz)) kk0 kk1
  have C1 := At_good hdv at_ z hz (by omega) kk0 kk1 hk0 hk1
  have hlc := h.hst.len
  have hpos := h.hst.pos
  have HH := mkHid (And.intro h (And.intro hz (And.intro hbk (And.intro hLm (And.intro r1 (And.intro r2 (And.intro bV (And.intro zV hlc))))))))
  clear h hz hk0 hk1 r0 r1 r2 bV zV hv hdv hlen hbk hLm hlc hfew
  go_enter Tryd.func10, Tryd.ntmps10
  go_upto_region 1 with fail
  try rw [hV]
  clear hV
  go_wp2_with fail
  refine C1.mono ?_
  rintro e w1 ⟨c, rfl, g0, g1, rfl, d0, d1, z0, z1, d01, b1⟩
  clear C1 d01
  obtain ⟨y, hy⟩ : ∃ y, Cr.crash z kk0 kk1 = y := ⟨_, rfl⟩
  rw [hy] at HH
  have ey : (cutP z.1 kk0, cutP z.2 kk1) = y := hy
  have d0 : w1.heap[g0]? = some (.cells (bs (Cr.crash z kk0 kk1).1.1).toArray 5 (0, 0)) := d0
  have d1 : w1.heap[g1]? = some (.cells (bs (Cr.crash z kk0 kk1).2.1).toArray 5 (0, 0)) := d1
  rw [hy] at d0 d1
  rw [ey]
  clear ey
  replace hy := mkHid hy
  unfold dkA
  obtain ⟨n0, hn0⟩ : ∃ n0, y.1.1.length = n0 := ⟨_, rfl⟩
  obtain ⟨n1, hn1⟩ : ∃ n1, y.2.1.length = n1 := ⟨_, rfl⟩
  rw [hn0, hn1]
  have st1 := st_Dn w1 #[.slice (some ⟨g0, 0, none⟩) n0 n0, .slice (some ⟨g1, 0, none⟩) n1 n1] rfl (by simp [Value.oneCell'])
  obtain ⟨w2, hw2⟩ : ∃ w2, w1.alloc (.cells #[.slice (some ⟨g0, 0, none⟩) n0 n0, .slice (some ⟨g1, 0, none⟩) n1 n1] 26) = w2 := ⟨_, rfl⟩
  have b12 : Below w1.heap.size w1 w2 := by rw [← hw2]; exact (Below.refl _ w1).alloc (Nat.le_refl _) _
  have r9 : w2.heap[w1.heap.size]? = some (.cells #[.slice (some ⟨g0, 0, none⟩) n0 n0, .slice (some ⟨g1, 0, none⟩) n1 n1] 26 (0, 0)) := by rw [← hw2]; exact heap_alloc_new _ _
  rw [hw2] at st1
  clear hw2
  obtain ⟨kd, hkd⟩ : ∃ kd, w1.heap.size = kd := ⟨_, rfl⟩
  have hkdV : V.heap.size ≤ kd := by rw [← hkd]; exact b1.size
  rw [hkd] at r9
  have d0b := (b12.block _ (Array.getElem?_eq_some_iff.1 d0).1).trans d0
  have d1b := (b12.block _ (Array.getElem?_eq_some_iff.1 d1).1).trans d1
  have hby := HH.out.2.2.1.byt
  have hlm := HH.out.2.2.2.1
  have u0 := bl_row d0b hby.1 (by have := hlm.1; unfold maxLen; omega)
  have u1 := bl_row d1b hby.2 (by have := hlm.2; unfold maxLen; omega)
  have C2 := diskOf_any w2 u0 u1 (by have := hlm.1; unfold Go.Proofs.YtfimaflglnemdaaDoor.LIM; omega) (by have := hlm.2; unfold Go.Proofs.YtfimaflglnemdaaDoor.LIM; omega)
  rw [hn0, hn1] at C2
  rw [hn0] at u0
  rw [hn1] at u1
  have e0 : w2.cell? ⟨kd, 0, none⟩ = some (.slice (some ⟨g0, 0, none⟩) n0 n0) := (cell_of_row _ _ _ _ _ _ r9).trans rfl
  have e1 : w2.cell? ⟨kd, 1, none⟩ = some (.slice (some ⟨g1, 0, none⟩) n1 n1) := (cell_of_row _ _ _ _ _ _ r9).trans rfl
  have bV2 : Below V.heap.size V w2 := b1.trans (b12.mono b1.size)
  have hT2 : Tc w2 := HH.out.1.tc.below (HH.out.2.2.2.2.2.2.1.trans (bV2.mono HH.out.2.2.2.2.2.2.1.size)) HH.out.1.tc.sz
  have HK := mkHid (And.intro u0 (And.intro u1 (And.intro bV2 (And.intro hT2 (And.intro hkdV (And.intro z0 z1))))))
  have hkdH := mkHid hkd
  clear hkd
  clear z0 z1 d0 d1 d0b d1b u0 u1 b1 b12 r9 bV2 hT2 hby hlm hkdV
  go_upto_region 2 with fail
  rw [hkdH.out]
  go_wp2_with fail
  refine C2.mono ?_
  rintro e w3 ⟨o2, o3, c2, c3, rfl, k2, k3, b3⟩
  clear C2
  have e0b := cell_below b3 e0
  have e1b := cell_below b3 e1
  have C3 := Cr.replay_dsk w3 k2 k3 (HK.out.2.2.2.1.below b3 HK.out.2.2.2.1.sz) HH.out.2.2.2.1 HH.out.2.2.1
  have HK3 := mkHid b3
  clear k2 k3 b3 e0 e1
  go_wp2_with fail
  refine C3.mono ?_
  rintro e w4 ⟨c, rfl, k4, b4⟩
  clear C3
  obtain ⟨a0, a1, a2, a3, p4, p5, n4, n5, q4, q5, rfl⟩ := k4.form
  have e0c := cell_below b4 e0b
  have e1c := cell_below b4 e1b
  obtain ⟨w5, hw5⟩ : ∃ w5, w4.alloc (.cells #[.int .i64 a0, .int .i64 a1, .int .i64 a2, .int .i64 a3, .slice p4 n4 q4, .slice p5 n5 q5] 47) = w5 := ⟨_, rfl⟩
  have b45 : Below w4.heap.size w4 w5 := by rw [← hw5]; exact (Below.refl _ w4).alloc (Nat.le_refl _) _
  have rS : w5.heap[w4.heap.size]? = some (.cells #[.int .i64 a0, .int .i64 a1, .int .i64 a2, .int .i64 a3, .slice p4 n4 q4, .slice p5 n5 q5] 47 (0, 0)) := by rw [← hw5]; exact heap_alloc_new _ _
  obtain ⟨ks, hks⟩ : ∃ ks, w4.heap.size = ks := ⟨_, rfl⟩
  rw [hks] at rS
  have t5 := k4.below b45
  have b25 : Below w2.heap.size w2 w5 := HK3.out.trans ((b4.trans (b45.mono b4.size)).mono HK3.out.size)
  have hksV : V.heap.size ≤ ks := by rw [← hks]; exact Nat.le_trans HK.out.2.2.1.size (Nat.le_trans HK3.out.size b4.size)
  have bV5 : Below V.heap.size V w5 := HK.out.2.2.1.trans (b25.mono HK.out.2.2.1.size)
  have bW5 : Below W.heap.size W w5 := HH.out.2.2.2.2.2.2.1.trans (bV5.mono HH.out.2.2.2.2.2.2.1.size)
  have L5 := HH.out.1.below bW5
  have f0 := cell_below b45 e0c
  have f1 := cell_below b45 e1c
  have f2 : w5.cell? ⟨ks, 0, none⟩ = some (.int .i64 a0) ∧ w5.cell? ⟨ks, 1, none⟩ = some (.int .i64 a1) ∧ w5.cell? ⟨ks, 2, none⟩ = some (.int .i64 a2) ∧ w5.cell? ⟨ks, 3, none⟩ = some (.int .i64 a3) ∧ w5.cell? ⟨ks, 4, none⟩ = some (.slice p4 n4 q4) ∧ w5.cell? ⟨ks, 5, none⟩ = some (.slice p5 n5 q5) := ⟨(cell_of_row _ _ _ _ _ _ rS).trans rfl, (cell_of_row _ _ _ _ _ _ rS).trans rfl, (cell_of_row _ _ _ _ _ _ rS).trans rfl, (cell_of_row _ _ _ _ _ _ rS).trans rfl, (cell_of_row _ _ _ _ _ _ rS).trans rfl, (cell_of_row _ _ _ _ _ _ rS).trans rfl⟩
  have HL := mkHid (And.intro L5 (And.intro bV5 (And.intro bW5 (And.intro t5 (And.intro hksV (And.intro b25 f2))))))
  clear k4 b4 b45 rS t5 b25 hksV bV5 bW5 L5 e0b e1b e0c e1c f2
  go_upto_region 3 with fail
  try rw [hw5]
  try rw [hks]
  clear hw5 hks
  --LOOP
  go_wp2_with fail
  go_loopw [19] (fun dv wr => ∃ d : Nat, dv = .int .i64 (d : Int) ∧ d < cs.length ∧ Hid ((d = 0 ∨ ∃ c, cs[d]? = some c ∧ c ≤ at_) ∧ wr = w5)) (fun dv _ => cs.length - (intOf dv).toNat)
  case atStart => exact ⟨0, rfl, hpos, .inl rfl, rfl⟩
  case round =>
    obtain ⟨d, rfl, hdl, HD⟩ := hrel
    obtain ⟨h1, hw⟩ := HD.out
    subst hw
    by_cases hlt : d + 1 < cs.length
    · have hlt2 : (d : Int) + 1 < (cs.length : Int) := by omega
      have hd9 : (0 : Int) ≤ (d : Int) + 1 := by omega
      obtain ⟨c', hc'⟩ : ∃ c, cs[d + 1]? = some c := ⟨_, List.getElem?_eq_getElem hlt⟩
      have hcc := HL.out.1.cc _ _ hc'
      by_cases hle : c' ≤ at_
      · have hle2 : (c' : Int) ≤ (at_ : Int) := by omega
        have HR := mkHid (show ((d + 1 = 0 ∨ ∃ c, cs[d + 1]? = some c ∧ c ≤ at_) ∧ True) from ⟨.inr ⟨c', hc', hle⟩, trivial⟩)
        clear hc' h1 HD
        go_wp2_with fail
        exact ⟨⟨d + 1, by simp, hlt, HR⟩, by simp only [intOf]; omega⟩
      · have hle2 : ¬ (c' : Int) ≤ (at_ : Int) := by omega
        have h2 : d + 1 = cs.length ∨ ∃ d', cs[d + 1]? = some d' ∧ at_ < d' := .inr ⟨c', hc', by omega⟩
        clear hc' HD
        obtain ⟨a, ha⟩ : ∃ a, bks[d]? = some a := ⟨_, List.getElem?_eq_getElem (by have := HH.out.2.2.2.2.2.2.2.2; omega)⟩
        obtain ⟨o0, o1, x0, x1, t0, t1, t2, t4, t5⟩ := HL.out.1.cb d a ha
        have told := HH.out.1.hst.told HH.out.2.1 ha h1 h2 kk0 kk1
        rw [hy.out] at told
        have hbn := HH.out.1.hst.bnd ha
        obtain ⟨s0, s1, s2, s3, s4, s5⟩ := HL.out.2.2.2.2.2.2
        obtain ⟨m0, hm0⟩ : ∃ m, a.base.length = m := ⟨_, rfl⟩
        obtain ⟨m1, hm1⟩ : ∃ m, a.batches.length = m := ⟨_, rfl⟩
        obtain ⟨la, hla⟩ : ∃ m, a.last = m := ⟨_, rfl⟩
        rw [hm0] at t0 t4
        rw [hm1] at t1 t5
        rw [hla] at t2
        have bd := below_drew wr
        have S8 : SL kd (.slice (some ⟨g0, 0, none⟩) n0 n0) (.slice (some ⟨g1, 0, none⟩) n1 n1) ks a0 a1 a2 a3 p4 p5 n4 n5 q4 q5 gb (d * 3) (.slice o0 m0 x0) (.slice o1 m1 x1) (la : Int) wr.drew := ⟨f0, f1, s0, s1, s2, s3, s4, s5, t0, t1, t2⟩
        have hd0 : (0 : Int) ≤ (d : Int) := by omega
        have hd1 : (d : Int) < (cs.length : Int) := by omega
        obtain ⟨r, hr⟩ : ∃ r : Bool, (r = true ↔ a = bk) := by
          by_cases q : a = bk
          · exact ⟨true, by simp [q]⟩
          · exact ⟨false, by simp [q]⟩
        have C8 : Hid (Calls Tryd.prog 38 #[.agg #[.slice o0 m0 x0, .slice o1 m1 x1, .int .i64 (la : Int)], .agg #[.int .i64 a0, .int .i64 a1, .int .i64 a2, .int .i64 a3, .slice p4 n4 q4, .slice p5 n5 q5]] wr.drew fun e w' => e = .returned (.bool r) ∧ Below wr.drew.heap.size wr.drew w') := by
          have := Cr.holds_told wr.drew (t4.keep (stay_below bd)) (t5.keep (stay_below bd)) hbn (HL.out.2.2.2.1.below bd) hr
          rw [hla] at this
          exact this
        have HT := mkHid (And.intro ha (And.intro t4 (And.intro t5 (And.intro hm0 (And.intro hm1 (And.intro hla (And.intro told (And.intro hr bd))))))))
        clear t0 t1 t2 t4 t5 ha hm0 hm1 hla told hbn hr bd s0 s1 s2 s3 s4 s5 h1 h2 f0 f1
        go_upto_region 8 with fail
        go_region_held3 (fun w' => SL kd (.slice (some ⟨g0, 0, none⟩) n0 n0) (.slice (some ⟨g1, 0, none⟩) n1 n1) ks a0 a1 a2 a3 p4 p5 n4 n5 q4 q5 gb (d * 3) (.slice o0 m0 x0) (.slice o1 m1 x1) (la : Int) w') (first | assumption | exact S8 | exact S8b)
          (first
            | (go_at_call 38; with_reducible refine Calls.mono C8.out ?_; rintro e w8 ⟨rfl, b8⟩; have S8b := S8.below b8; replace b8 := mkHid b8))
        clear C8 S8
        have b58 : Below wr.heap.size wr w8 := HT.out.2.2.2.2.2.2.2.2.trans (b8.out.mono HT.out.2.2.2.2.2.2.2.2.size)
        cases r with
        | true =>
          have hab : a = bk := HT.out.2.2.2.2.2.2.2.1.1 rfl
          have gb9 : ∃ u, W.cell? ⟨gb, d * 3, none⟩ = some u := let ⟨_, _, _, _, e, _⟩ := HH.out.1.cb d a HT.out.1; ⟨_, e⟩
          obtain ⟨ug, hug⟩ := gb9
          have SB := S8b
          have zV := HH.out.2.2.2.2.2.2.2.1
          have b8d : Below wr.heap.size wr w8.drew := b58.trans ((below_drew w8).mono b58.size)
          have bVd : Below V.heap.size V w8.drew := HL.out.2.1.trans (b8d.mono HL.out.2.1.size)
          have bWd : Below W.heap.size W w8.drew := HL.out.2.2.1.trans (b8d.mono HL.out.2.2.1.size)
          have rx1 : w8.drew.heap[W.heap.size + 1]? = some (.cells zD 26 (0, 0)) := (bVd.block _ (by omega)).trans HH.out.2.2.2.2.1
          have rx2 : w8.drew.heap[W.heap.size + 2]? = some (.cells zBk 30 (0, 0)) := (bVd.block _ (by omega)).trans HH.out.2.2.2.2.2.1
          obtain ⟨X1, hX1⟩ : ∃ X, w8.drew.setRow (W.heap.size + 1) #[.slice (some ⟨g0, 0, none⟩) n0 n0, .slice (some ⟨g1, 0, none⟩) n1 n1] = X := ⟨_, rfl⟩
          have st3 := st_D w8.drew (W.heap.size + 1) zD #[.slice (some ⟨g0, 0, none⟩) n0 n0, .slice (some ⟨g1, 0, none⟩) n1 n1] rfl rfl (by simp [Value.oneCell']) rx1
          rw [hX1] at st3
          have kdz := HK.out.2.2.2.2.1
          have ksz := HL.out.2.2.2.2.1
          have gbz : gb ≠ W.heap.size + 1 ∧ gb ≠ W.heap.size + 2 := by
            have q := World.block_lt_of_cell? W _ hug
            have q : gb < W.heap.size := q
            omega
          have SA : SL kd (.slice (some ⟨g0, 0, none⟩) n0 n0) (.slice (some ⟨g1, 0, none⟩) n1 n1) ks a0 a1 a2 a3 p4 p5 n4 n5 q4 q5 gb (d * 3) (.slice o0 m0 x0) (.slice o1 m1 x1) (la : Int) X1 := by rw [← hX1]; exact SL.set SB _ (by omega) (by omega) gbz.1
          have rx2b : X1.heap[W.heap.size + 2]? = some (.cells zBk 30 (0, 0)) := by rw [← hX1]; exact (setRow_other _ _ _ _ (by omega)).trans rx2
          obtain ⟨X2, hX2⟩ : ∃ X, X1.setRow (W.heap.size + 2) #[.slice o0 m0 x0, .slice o1 m1 x1, .int .i64 (la : Int)] = X := ⟨_, rfl⟩
          have st4 := st_Bk X1 (W.heap.size + 2) zBk #[.slice o0 m0 x0, .slice o1 m1 x1, .int .i64 (la : Int)] rfl rfl (by simp [Value.oneCell']) rx2b
          rw [hX2] at st4
          have st4 : (stBk (.pointer (some ⟨W.heap.size + 1 + 1, 0, none⟩)) (.agg #[.slice o0 m0 x0, .slice o1 m1 x1, .int .i64 (la : Int)])).run Tryd.prog X1 = .ok () X2 := st4
          have SC : SL kd (.slice (some ⟨g0, 0, none⟩) n0 n0) (.slice (some ⟨g1, 0, none⟩) n1 n1) ks a0 a1 a2 a3 p4 p5 n4 n5 q4 q5 gb (d * 3) (.slice o0 m0 x0) (.slice o1 m1 x1) (la : Int) X2 := by rw [← hX2]; exact SL.set SA _ (by omega) (by omega) gbz.2
          have FIN := mkHid (show X2.heap[W.heap.size + 1]? = some (.cells #[.slice (some ⟨g0, 0, none⟩) n0 n0, .slice (some ⟨g1, 0, none⟩) n1 n1] 26 (0, 0)) ∧ X2.heap[W.heap.size + 2]? = some (.cells #[.slice o0 m0 x0, .slice o1 m1 x1, .int .i64 (la : Int)] 30 (0, 0)) ∧ LfP W z kk0 kk1 B N g0 n0 g1 n1 (.slice o0 m0 x0) (.slice o1 m1 x1) la X2 from by
            have sty : Stay B (fun t => t = 5 ∨ t = 23 ∨ t = 27) w8.drew X2 := fun k c t _ ht hc => by
              have k1 : k ≠ W.heap.size + 1 := row_ne hc rx1 (by rcases ht with rfl | rfl | rfl <;> decide)
              have k2 : k ≠ W.heap.size + 2 := row_ne hc rx2 (by rcases ht with rfl | rfl | rfl <;> decide)
              rw [← hX2, ← hX1]
              exact (setRow_other _ _ _ _ k2).trans (setRow_other _ _ _ _ k1)
            have b2d := HL.out.2.2.2.2.2.1.trans (b8d.mono HL.out.2.2.2.2.2.1.size)
            obtain ⟨u0, u1, -, -, -, g0z, g1z⟩ := HK.out
            refine ⟨?_, ?_, a, ?_, ?_, ?_, ?_, HT.out.2.2.2.2.2.1, ?_, ?_, ?_, by omega, by omega⟩
            · rw [← hX2, ← hX1]
              exact (setRow_other _ _ _ _ (by omega)).trans (setRow_heap _ _ _ _ _ _ rx1)
            · rw [← hX2]
              exact setRow_heap _ _ _ _ _ _ rx2b
            · rw [hy.out, ← hX2, ← hX1]
              exact bl_setR (bl_setR (u0.below b2d) (by omega)) (by omega)
            · rw [hy.out, ← hX2, ← hX1]
              exact bl_setR (bl_setR (u1.below b2d) (by omega)) (by omega)
            · rw [hy.out, hab]
              exact HH.out.2.2.1
            · rw [hy.out]
              exact HH.out.2.2.2.1
            · have q := (HT.out.2.1.keep (stay_below b8d)).keep (fun k c t h1 h2 h3 => sty k c t h1 (h2.elim .inl (fun q => .inr (.inl q))) h3)
              exact q
            · exact (HT.out.2.2.1.keep (stay_below b8d)).keep sty
            · rw [← hX2, ← hX1]
              exact below_setRow (below_setRow bWd (by omega) _) (by omega) _)
          clear rx1 rx2 rx2b hX1 hX2 b8d bVd bWd kdz ksz gbz zV
          go_upto_region 9 with fail
          go_region_held3 (fun w' => SL kd (.slice (some ⟨g0, 0, none⟩) n0 n0) (.slice (some ⟨g1, 0, none⟩) n1 n1) ks a0 a1 a2 a3 p4 p5 n4 n5 q4 q5 gb (d * 3) (.slice o0 m0 x0) (.slice o1 m1 x1) (la : Int) w') (first | assumption | exact SB | exact SA | exact SC) (fail)
          go_wp2_with fail
          refine bodyPost_ret (results_DB rfl _ _ (W.heap.size + 1) (W.heap.size + 2) _ _ rfl rfl rfl FIN.out.1 rfl FIN.out.2.1) rfl ?_
          exact ⟨g0, n0, g1, n1, _, _, la, rfl, FIN.out.2.2⟩
        | false =>
          have hab : a ≠ bk := fun h => by have := HT.out.2.2.2.2.2.2.2.1.2 h; cases this
          rcases HT.out.2.2.2.2.2.2.1 with q | ⟨c9, b9, hc9, hlt9, hd9, hb9, hq9⟩
          · exact absurd (Cr.Dsk.uniq q HH.out.2.2.1 HH.out.2.2.2.1) hab
          have hb9k : b9 = bk := Cr.Dsk.uniq hq9 HH.out.2.2.1 HH.out.2.2.2.1
          obtain ⟨v0, v1, z0, z1, t0, t1, t2, t4, t5⟩ := HL.out.1.cb (d + 1) b9 hb9
          have tc := HL.out.1.cc d c9 hc9
          have hbn := HH.out.1.hst.bnd hb9
          obtain ⟨m2, hm2⟩ : ∃ m, b9.base.length = m := ⟨_, rfl⟩
          obtain ⟨m3, hm3⟩ : ∃ m, b9.batches.length = m := ⟨_, rfl⟩
          obtain ⟨lb, hlb⟩ : ∃ m, b9.last = m := ⟨_, rfl⟩
          rw [hm2] at t0 t4
          rw [hm3] at t1 t5
          rw [hlb] at t2
          have bd : Below wr.heap.size wr w8.drew := b58.trans ((below_drew w8).mono b58.size)
          obtain ⟨S1, S2, S3, S4, S5, S6, S7, S8', -, -, -⟩ := S8b
          have S10 : SL kd (.slice (some ⟨g0, 0, none⟩) n0 n0) (.slice (some ⟨g1, 0, none⟩) n1 n1) ks a0 a1 a2 a3 p4 p5 n4 n5 q4 q5 gb ((d + 1) * 3) (.slice v0 m2 z0) (.slice v1 m3 z1) (lb : Int) w8.drew ∧ w8.drew.cell? ⟨gc, d, none⟩ = some (.int .i64 (c9 : Int)) := ⟨⟨S1, S2, S3, S4, S5, S6, S7, S8', cell_below bd t0, cell_below bd t1, cell_below bd t2⟩, cell_below bd tc⟩
          have hc9i : (c9 : Int) < (at_ : Int) := by omega
          have hd9i : (d : Int) + 1 < (cs.length : Int) := by omega
          have hd8i : (0 : Int) ≤ (d : Int) + 1 := by omega
          have hw9 : IntKind.i64.wrap ((d : Int) + 1) = (d : Int) + 1 := by rw [IntKind.wrap_i64]; omega
          have C10 : Hid (Calls Tryd.prog 38 #[.agg #[.slice v0 m2 z0, .slice v1 m3 z1, .int .i64 (lb : Int)], .agg #[.int .i64 a0, .int .i64 a1, .int .i64 a2, .int .i64 a3, .slice p4 n4 q4, .slice p5 n5 q5]] w8.drew fun e w' => e = .returned (.bool true) ∧ Below w8.drew.heap.size w8.drew w') := by
            have := Cr.holds_told (r := true) w8.drew (t4.keep (stay_below bd)) (t5.keep (stay_below bd)) hbn (HL.out.2.2.2.1.below bd) ⟨fun _ => hb9k, fun _ => rfl⟩
            rw [hlb] at this
            exact this
          have HT2 := mkHid (And.intro t4 (And.intro t5 (And.intro hb9k (And.intro hlb (And.intro bd hb9)))))
          clear t0 t1 t2 t4 t5 tc hm2 hm3 hlb hbn hc9 hlt9 hd9 hb9 hq9 hb9k bd S1 S2 S3 S4 S5 S6 S7 S8' hab HT b8
          go_upto_region 10 with fail
          go_region_held3 (fun w' => SL kd (.slice (some ⟨g0, 0, none⟩) n0 n0) (.slice (some ⟨g1, 0, none⟩) n1 n1) ks a0 a1 a2 a3 p4 p5 n4 n5 q4 q5 gb ((d + 1) * 3) (.slice v0 m2 z0) (.slice v1 m3 z1) (lb : Int) w' ∧ w'.cell? ⟨gc, d, none⟩ = some (.int .i64 (c9 : Int))) (first | assumption | exact S10 | exact S10b)
            (first
              | (go_at_call 38; with_reducible refine Calls.mono C10.out ?_; rintro e w10 ⟨rfl, b10⟩; have S10b := And.intro (S10.1.below b10) (cell_below b10 S10.2); replace b10 := mkHid b10))
          have b5A : Below wr.heap.size wr w10 := HT2.out.2.2.2.2.1.trans (b10.out.mono HT2.out.2.2.2.2.1.size)
          have gb9 : ∃ u, W.cell? ⟨gb, (d + 1) * 3, none⟩ = some u := let ⟨_, _, _, _, e, _⟩ := HH.out.1.cb (d + 1) b9 HT2.out.2.2.2.2.2; ⟨_, e⟩
          obtain ⟨ug, hug⟩ := gb9
          have SB := S10b.1
          clear S10 S10b C10
          have zV := HH.out.2.2.2.2.2.2.2.1
          have b8d : Below wr.heap.size wr w10.drew := b5A.trans ((below_drew w10).mono b5A.size)
          have bVd : Below V.heap.size V w10.drew := HL.out.2.1.trans (b8d.mono HL.out.2.1.size)
          have bWd : Below W.heap.size W w10.drew := HL.out.2.2.1.trans (b8d.mono HL.out.2.2.1.size)
          have rx1 : w10.drew.heap[W.heap.size + 1]? = some (.cells zD 26 (0, 0)) := (bVd.block _ (by omega)).trans HH.out.2.2.2.2.1
          have rx2 : w10.drew.heap[W.heap.size + 2]? = some (.cells zBk 30 (0, 0)) := (bVd.block _ (by omega)).trans HH.out.2.2.2.2.2.1
          obtain ⟨X1, hX1⟩ : ∃ X, w10.drew.setRow (W.heap.size + 1) #[.slice (some ⟨g0, 0, none⟩) n0 n0, .slice (some ⟨g1, 0, none⟩) n1 n1] = X := ⟨_, rfl⟩
          have st3 := st_D w10.drew (W.heap.size + 1) zD #[.slice (some ⟨g0, 0, none⟩) n0 n0, .slice (some ⟨g1, 0, none⟩) n1 n1] rfl rfl (by simp [Value.oneCell']) rx1
          rw [hX1] at st3
          have kdz := HK.out.2.2.2.2.1
          have ksz := HL.out.2.2.2.2.1
          have gbz : gb ≠ W.heap.size + 1 ∧ gb ≠ W.heap.size + 2 := by
            have q := World.block_lt_of_cell? W _ hug
            have q : gb < W.heap.size := q
            omega
          have SA : SL kd (.slice (some ⟨g0, 0, none⟩) n0 n0) (.slice (some ⟨g1, 0, none⟩) n1 n1) ks a0 a1 a2 a3 p4 p5 n4 n5 q4 q5 gb ((d + 1) * 3) (.slice v0 m2 z0) (.slice v1 m3 z1) (lb : Int) X1 := by rw [← hX1]; exact SL.set SB _ (by omega) (by omega) gbz.1
          have rx2b : X1.heap[W.heap.size + 2]? = some (.cells zBk 30 (0, 0)) := by rw [← hX1]; exact (setRow_other _ _ _ _ (by omega)).trans rx2
          obtain ⟨X2, hX2⟩ : ∃ X, X1.setRow (W.heap.size + 2) #[.slice v0 m2 z0, .slice v1 m3 z1, .int .i64 (lb : Int)] = X := ⟨_, rfl⟩
          have st4 := st_Bk X1 (W.heap.size + 2) zBk #[.slice v0 m2 z0, .slice v1 m3 z1, .int .i64 (lb : Int)] rfl rfl (by simp [Value.oneCell']) rx2b
          rw [hX2] at st4
          have st4 : (stBk (.pointer (some ⟨W.heap.size + 1 + 1, 0, none⟩)) (.agg #[.slice v0 m2 z0, .slice v1 m3 z1, .int .i64 (lb : Int)])).run Tryd.prog X1 = .ok () X2 := st4
          have SC : SL kd (.slice (some ⟨g0, 0, none⟩) n0 n0) (.slice (some ⟨g1, 0, none⟩) n1 n1) ks a0 a1 a2 a3 p4 p5 n4 n5 q4 q5 gb ((d + 1) * 3) (.slice v0 m2 z0) (.slice v1 m3 z1) (lb : Int) X2 := by rw [← hX2]; exact SL.set SA _ (by omega) (by omega) gbz.2
          have FIN := mkHid (show X2.heap[W.heap.size + 1]? = some (.cells #[.slice (some ⟨g0, 0, none⟩) n0 n0, .slice (some ⟨g1, 0, none⟩) n1 n1] 26 (0, 0)) ∧ X2.heap[W.heap.size + 2]? = some (.cells #[.slice v0 m2 z0, .slice v1 m3 z1, .int .i64 (lb : Int)] 30 (0, 0)) ∧ LfP W z kk0 kk1 B N g0 n0 g1 n1 (.slice v0 m2 z0) (.slice v1 m3 z1) lb X2 from by
            have sty : Stay B (fun t => t = 5 ∨ t = 23 ∨ t = 27) w10.drew X2 := fun k c t _ ht hc => by
              have k1 : k ≠ W.heap.size + 1 := row_ne hc rx1 (by rcases ht with rfl | rfl | rfl <;> decide)
              have k2 : k ≠ W.heap.size + 2 := row_ne hc rx2 (by rcases ht with rfl | rfl | rfl <;> decide)
              rw [← hX2, ← hX1]
              exact (setRow_other _ _ _ _ k2).trans (setRow_other _ _ _ _ k1)
            have b2d := HL.out.2.2.2.2.2.1.trans (b8d.mono HL.out.2.2.2.2.2.1.size)
            obtain ⟨u0, u1, -, -, -, g0z, g1z⟩ := HK.out
            refine ⟨?_, ?_, b9, ?_, ?_, ?_, ?_, HT2.out.2.2.2.1, ?_, ?_, ?_, by omega, by omega⟩
            · rw [← hX2, ← hX1]
              exact (setRow_other _ _ _ _ (by omega)).trans (setRow_heap _ _ _ _ _ _ rx1)
            · rw [← hX2]
              exact setRow_heap _ _ _ _ _ _ rx2b
            · rw [hy.out, ← hX2, ← hX1]
              exact bl_setR (bl_setR (u0.below b2d) (by omega)) (by omega)
            · rw [hy.out, ← hX2, ← hX1]
              exact bl_setR (bl_setR (u1.below b2d) (by omega)) (by omega)
            · rw [hy.out, HT2.out.2.2.1]
              exact HH.out.2.2.1
            · rw [hy.out]
              exact HH.out.2.2.2.1
            · have q := (HT2.out.1.keep (stay_below b8d)).keep (fun k c t h1 h2 h3 => sty k c t h1 (h2.elim .inl (fun q => .inr (.inl q))) h3)
              exact q
            · exact (HT2.out.2.1.keep (stay_below b8d)).keep sty
            · rw [← hX2, ← hX1]
              exact below_setRow (below_setRow bWd (by omega) _) (by omega) _)
          clear rx1 rx2 rx2b hX1 hX2 b8d bVd bWd kdz ksz gbz zV
          go_upto_region 11 with fail
          go_region_held3 (fun w' => SL kd (.slice (some ⟨g0, 0, none⟩) n0 n0) (.slice (some ⟨g1, 0, none⟩) n1 n1) ks a0 a1 a2 a3 p4 p5 n4 n5 q4 q5 gb ((d + 1) * 3) (.slice v0 m2 z0) (.slice v1 m3 z1) (lb : Int) w') (first | assumption | exact SB | exact SA | exact SC) (fail)
          go_wp2_with fail
          refine bodyPost_ret (results_DB rfl _ _ (W.heap.size + 1) (W.heap.size + 2) _ _ rfl rfl rfl FIN.out.1 rfl FIN.out.2.1) rfl ?_
          exact ⟨g0, n0, g1, n1, _, _, lb, rfl, FIN.out.2.2⟩
    · have hlt2 : ¬ (d : Int) + 1 < (cs.length : Int) := by omega
      have h2 : d + 1 = cs.length ∨ ∃ d', cs[d + 1]? = some d' ∧ at_ < d' := .inl (by omega)
      clear HD
      obtain ⟨a, ha⟩ : ∃ a, bks[d]? = some a := ⟨_, List.getElem?_eq_getElem (by have := HH.out.2.2.2.2.2.2.2.2; omega)⟩
      obtain ⟨o0, o1, x0, x1, t0, t1, t2, t4, t5⟩ := HL.out.1.cb d a ha
      have told := HH.out.1.hst.told HH.out.2.1 ha h1 h2 kk0 kk1
      rw [hy.out] at told
      have hbn := HH.out.1.hst.bnd ha
      obtain ⟨s0, s1, s2, s3, s4, s5⟩ := HL.out.2.2.2.2.2.2
      obtain ⟨m0, hm0⟩ : ∃ m, a.base.length = m := ⟨_, rfl⟩
      obtain ⟨m1, hm1⟩ : ∃ m, a.batches.length = m := ⟨_, rfl⟩
      obtain ⟨la, hla⟩ : ∃ m, a.last = m := ⟨_, rfl⟩
      rw [hm0] at t0 t4
      rw [hm1] at t1 t5
      rw [hla] at t2
      have bd := below_drew wr
      have S8 : SL kd (.slice (some ⟨g0, 0, none⟩) n0 n0) (.slice (some ⟨g1, 0, none⟩) n1 n1) ks a0 a1 a2 a3 p4 p5 n4 n5 q4 q5 gb (d * 3) (.slice o0 m0 x0) (.slice o1 m1 x1) (la : Int) wr.drew := ⟨f0, f1, s0, s1, s2, s3, s4, s5, t0, t1, t2⟩
      have hd0 : (0 : Int) ≤ (d : Int) := by omega
      have hd1 : (d : Int) < (cs.length : Int) := by omega
      obtain ⟨r, hr⟩ : ∃ r : Bool, (r = true ↔ a = bk) := by
        by_cases q : a = bk
        · exact ⟨true, by simp [q]⟩
        · exact ⟨false, by simp [q]⟩
      have C8 : Hid (Calls Tryd.prog 38 #[.agg #[.slice o0 m0 x0, .slice o1 m1 x1, .int .i64 (la : Int)], .agg #[.int .i64 a0, .int .i64 a1, .int .i64 a2, .int .i64 a3, .slice p4 n4 q4, .slice p5 n5 q5]] wr.drew fun e w' => e = .returned (.bool r) ∧ Below wr.drew.heap.size wr.drew w') := by
        have := Cr.holds_told wr.drew (t4.keep (stay_below bd)) (t5.keep (stay_below bd)) hbn (HL.out.2.2.2.1.below bd) hr
        rw [hla] at this
        exact this
      have HT := mkHid (And.intro ha (And.intro t4 (And.intro t5 (And.intro hm0 (And.intro hm1 (And.intro hla (And.intro told (And.intro hr bd))))))))
      clear t0 t1 t2 t4 t5 ha hm0 hm1 hla told hbn hr bd s0 s1 s2 s3 s4 s5 h1 h2 f0 f1
      go_upto_region 8 with fail
      go_region_held3 (fun w' => SL kd (.slice (some ⟨g0, 0, none⟩) n0 n0) (.slice (some ⟨g1, 0, none⟩) n1 n1) ks a0 a1 a2 a3 p4 p5 n4 n5 q4 q5 gb (d * 3) (.slice o0 m0 x0) (.slice o1 m1 x1) (la : Int) w') (first | assumption | exact S8 | exact S8b)
        (first
          | (go_at_call 38; with_reducible refine Calls.mono C8.out ?_; rintro e w8 ⟨rfl, b8⟩; have S8b := S8.below b8; replace b8 := mkHid b8))
      clear C8 S8
      have b58 : Below wr.heap.size wr w8 := HT.out.2.2.2.2.2.2.2.2.trans (b8.out.mono HT.out.2.2.2.2.2.2.2.2.size)
      cases r with
      | true =>
        have hab : a = bk := HT.out.2.2.2.2.2.2.2.1.1 rfl
        have gb9 : ∃ u, W.cell? ⟨gb, d * 3, none⟩ = some u := let ⟨_, _, _, _, e, _⟩ := HH.out.1.cb d a HT.out.1; ⟨_, e⟩
        obtain ⟨ug, hug⟩ := gb9
        have SB := S8b
        have zV := HH.out.2.2.2.2.2.2.2.1
        have b8d : Below wr.heap.size wr w8.drew := b58.trans ((below_drew w8).mono b58.size)
        have bVd : Below V.heap.size V w8.drew := HL.out.2.1.trans (b8d.mono HL.out.2.1.size)
        have bWd : Below W.heap.size W w8.drew := HL.out.2.2.1.trans (b8d.mono HL.out.2.2.1.size)
        have rx1 : w8.drew.heap[W.heap.size + 1]? = some (.cells zD 26 (0, 0)) := (bVd.block _ (by omega)).trans HH.out.2.2.2.2.1
        have rx2 : w8.drew.heap[W.heap.size + 2]? = some (.cells zBk 30 (0, 0)) := (bVd.block _ (by omega)).trans HH.out.2.2.2.2.2.1
        obtain ⟨X1, hX1⟩ : ∃ X, w8.drew.setRow (W.heap.size + 1) #[.slice (some ⟨g0, 0, none⟩) n0 n0, .slice (some ⟨g1, 0, none⟩) n1 n1] = X := ⟨_, rfl⟩
        have st3 := st_D w8.drew (W.heap.size + 1) zD #[.slice (some ⟨g0, 0, none⟩) n0 n0, .slice (some ⟨g1, 0, none⟩) n1 n1] rfl rfl (by simp [Value.oneCell']) rx1
        rw [hX1] at st3
        have kdz := HK.out.2.2.2.2.1
        have ksz := HL.out.2.2.2.2.1
        have gbz : gb ≠ W.heap.size + 1 ∧ gb ≠ W.heap.size + 2 := by
          have q := World.block_lt_of_cell? W _ hug
          have q : gb < W.heap.size := q
          omega
        have SA : SL kd (.slice (some ⟨g0, 0, none⟩) n0 n0) (.slice (some ⟨g1, 0, none⟩) n1 n1) ks a0 a1 a2 a3 p4 p5 n4 n5 q4 q5 gb (d * 3) (.slice o0 m0 x0) (.slice o1 m1 x1) (la : Int) X1 := by rw [← hX1]; exact SL.set SB _ (by omega) (by omega) gbz.1
        have rx2b : X1.heap[W.heap.size + 2]? = some (.cells zBk 30 (0, 0)) := by rw [← hX1]; exact (setRow_other _ _ _ _ (by omega)).trans rx2
        obtain ⟨X2, hX2⟩ : ∃ X, X1.setRow (W.heap.size + 2) #[.slice o0 m0 x0, .slice o1 m1 x1, .int .i64 (la : Int)] = X := ⟨_, rfl⟩
        have st4 := st_Bk X1 (W.heap.size + 2) zBk #[.slice o0 m0 x0, .slice o1 m1 x1, .int .i64 (la : Int)] rfl rfl (by simp [Value.oneCell']) rx2b
        rw [hX2] at st4
        have st4 : (stBk (.pointer (some ⟨W.heap.size + 1 + 1, 0, none⟩)) (.agg #[.slice o0 m0 x0, .slice o1 m1 x1, .int .i64 (la : Int)])).run Tryd.prog X1 = .ok () X2 := st4
        have SC : SL kd (.slice (some ⟨g0, 0, none⟩) n0 n0) (.slice (some ⟨g1, 0, none⟩) n1 n1) ks a0 a1 a2 a3 p4 p5 n4 n5 q4 q5 gb (d * 3) (.slice o0 m0 x0) (.slice o1 m1 x1) (la : Int) X2 := by rw [← hX2]; exact SL.set SA _ (by omega) (by omega) gbz.2
        have FIN := mkHid (show X2.heap[W.heap.size + 1]? = some (.cells #[.slice (some ⟨g0, 0, none⟩) n0 n0, .slice (some ⟨g1, 0, none⟩) n1 n1] 26 (0, 0)) ∧ X2.heap[W.heap.size + 2]? = some (.cells #[.slice o0 m0 x0, .slice o1 m1 x1, .int .i64 (la : Int)] 30 (0, 0)) ∧ LfP W z kk0 kk1 B N g0 n0 g1 n1 (.slice o0 m0 x0) (.slice o1 m1 x1) la X2 from by
          have sty : Stay B (fun t => t = 5 ∨ t = 23 ∨ t = 27) w8.drew X2 := fun k c t _ ht hc => by
            have k1 : k ≠ W.heap.size + 1 := row_ne hc rx1 (by rcases ht with rfl | rfl | rfl <;> decide)
            have k2 : k ≠ W.heap.size + 2 := row_ne hc rx2 (by rcases ht with rfl | rfl | rfl <;> decide)
            rw [← hX2, ← hX1]
            exact (setRow_other _ _ _ _ k2).trans (setRow_other _ _ _ _ k1)
          have b2d := HL.out.2.2.2.2.2.1.trans (b8d.mono HL.out.2.2.2.2.2.1.size)
          obtain ⟨u0, u1, -, -, -, g0z, g1z⟩ := HK.out
          refine ⟨?_, ?_, a, ?_, ?_, ?_, ?_, HT.out.2.2.2.2.2.1, ?_, ?_, ?_, by omega, by omega⟩
          · rw [← hX2, ← hX1]
            exact (setRow_other _ _ _ _ (by omega)).trans (setRow_heap _ _ _ _ _ _ rx1)
          · rw [← hX2]
            exact setRow_heap _ _ _ _ _ _ rx2b
          · rw [hy.out, ← hX2, ← hX1]
            exact bl_setR (bl_setR (u0.below b2d) (by omega)) (by omega)
          · rw [hy.out, ← hX2, ← hX1]
            exact bl_setR (bl_setR (u1.below b2d) (by omega)) (by omega)
          · rw [hy.out, hab]
            exact HH.out.2.2.1
          · rw [hy.out]
            exact HH.out.2.2.2.1
          · have q := (HT.out.2.1.keep (stay_below b8d)).keep (fun k c t h1 h2 h3 => sty k c t h1 (h2.elim .inl (fun q => .inr (.inl q))) h3)
            exact q
          · exact (HT.out.2.2.1.keep (stay_below b8d)).keep sty
          · rw [← hX2, ← hX1]
            exact below_setRow (below_setRow bWd (by omega) _) (by omega) _)
        clear rx1 rx2 rx2b hX1 hX2 b8d bVd bWd kdz ksz gbz zV
        go_upto_region 9 with fail
        go_region_held3 (fun w' => SL kd (.slice (some ⟨g0, 0, none⟩) n0 n0) (.slice (some ⟨g1, 0, none⟩) n1 n1) ks a0 a1 a2 a3 p4 p5 n4 n5 q4 q5 gb (d * 3) (.slice o0 m0 x0) (.slice o1 m1 x1) (la : Int) w') (first | assumption | exact SB | exact SA | exact SC) (fail)
        go_wp2_with fail
        refine bodyPost_ret (results_DB rfl _ _ (W.heap.size + 1) (W.heap.size + 2) _ _ rfl rfl rfl FIN.out.1 rfl FIN.out.2.1) rfl ?_
        exact ⟨g0, n0, g1, n1, _, _, la, rfl, FIN.out.2.2⟩
      | false =>
        have hab : a ≠ bk := fun h => by have := HT.out.2.2.2.2.2.2.2.1.2 h; cases this
        rcases HT.out.2.2.2.2.2.2.1 with q | ⟨c9, b9, hc9, hlt9, hd9, hb9, hq9⟩
        · exact absurd (Cr.Dsk.uniq q HH.out.2.2.1 HH.out.2.2.2.1) hab
        have hb9k : b9 = bk := Cr.Dsk.uniq hq9 HH.out.2.2.1 HH.out.2.2.2.1
        obtain ⟨v0, v1, z0, z1, t0, t1, t2, t4, t5⟩ := HL.out.1.cb (d + 1) b9 hb9
        have tc := HL.out.1.cc d c9 hc9
        have hbn := HH.out.1.hst.bnd hb9
        obtain ⟨m2, hm2⟩ : ∃ m, b9.base.length = m := ⟨_, rfl⟩
        obtain ⟨m3, hm3⟩ : ∃ m, b9.batches.length = m := ⟨_, rfl⟩
        obtain ⟨lb, hlb⟩ : ∃ m, b9.last = m := ⟨_, rfl⟩
        rw [hm2] at t0 t4
        rw [hm3] at t1 t5
        rw [hlb] at t2
        have bd : Below wr.heap.size wr w8.drew := b58.trans ((below_drew w8).mono b58.size)
        obtain ⟨S1, S2, S3, S4, S5, S6, S7, S8', -, -, -⟩ := S8b
        have S10 : SL kd (.slice (some ⟨g0, 0, none⟩) n0 n0) (.slice (some ⟨g1, 0, none⟩) n1 n1) ks a0 a1 a2 a3 p4 p5 n4 n5 q4 q5 gb ((d + 1) * 3) (.slice v0 m2 z0) (.slice v1 m3 z1) (lb : Int) w8.drew ∧ w8.drew.cell? ⟨gc, d, none⟩ = some (.int .i64 (c9 : Int)) := ⟨⟨S1, S2, S3, S4, S5, S6, S7, S8', cell_below bd t0, cell_below bd t1, cell_below bd t2⟩, cell_below bd tc⟩
        have hc9i : (c9 : Int) < (at_ : Int) := by omega
        have hd9i : (d : Int) + 1 < (cs.length : Int) := by omega
        have hd8i : (0 : Int) ≤ (d : Int) + 1 := by omega
        have hw9 : IntKind.i64.wrap ((d : Int) + 1) = (d : Int) + 1 := by rw [IntKind.wrap_i64]; omega
        have C10 : Hid (Calls Tryd.prog 38 #[.agg #[.slice v0 m2 z0, .slice v1 m3 z1, .int .i64 (lb : Int)], .agg #[.int .i64 a0, .int .i64 a1, .int .i64 a2, .int .i64 a3, .slice p4 n4 q4, .slice p5 n5 q5]] w8.drew fun e w' => e = .returned (.bool true) ∧ Below w8.drew.heap.size w8.drew w') := by
          have := Cr.holds_told (r := true) w8.drew (t4.keep (stay_below bd)) (t5.keep (stay_below bd)) hbn (HL.out.2.2.2.1.below bd) ⟨fun _ => hb9k, fun _ => rfl⟩
          rw [hlb] at this
          exact this
        have HT2 := mkHid (And.intro t4 (And.intro t5 (And.intro hb9k (And.intro hlb (And.intro bd hb9)))))
        clear t0 t1 t2 t4 t5 tc hm2 hm3 hlb hbn hc9 hlt9 hd9 hb9 hq9 hb9k bd S1 S2 S3 S4 S5 S6 S7 S8' hab HT b8
        go_upto_region 10 with fail
        go_region_held3 (fun w' => SL kd (.slice (some ⟨g0, 0, none⟩) n0 n0) (.slice (some ⟨g1, 0, none⟩) n1 n1) ks a0 a1 a2 a3 p4 p5 n4 n5 q4 q5 gb ((d + 1) * 3) (.slice v0 m2 z0) (.slice v1 m3 z1) (lb : Int) w' ∧ w'.cell? ⟨gc, d, none⟩ = some (.int .i64 (c9 : Int))) (first | assumption | exact S10 | exact S10b)
          (first
            | (go_at_call 38; with_reducible refine Calls.mono C10.out ?_; rintro e w10 ⟨rfl, b10⟩; have S10b := And.intro (S10.1.below b10) (cell_below b10 S10.2); replace b10 := mkHid b10))
        have b5A : Below wr.heap.size wr w10 := HT2.out.2.2.2.2.1.trans (b10.out.mono HT2.out.2.2.2.2.1.size)
        have gb9 : ∃ u, W.cell? ⟨gb, (d + 1) * 3, none⟩ = some u := let ⟨_, _, _, _, e, _⟩ := HH.out.1.cb (d + 1) b9 HT2.out.2.2.2.2.2; ⟨_, e⟩
        obtain ⟨ug, hug⟩ := gb9
        have SB := S10b.1
        clear S10 S10b C10
        have zV := HH.out.2.2.2.2.2.2.2.1
        have b8d : Below wr.heap.size wr w10.drew := b5A.trans ((below_drew w10).mono b5A.size)
        have bVd : Below V.heap.size V w10.drew := HL.out.2.1.trans (b8d.mono HL.out.2.1.size)
        have bWd : Below W.heap.size W w10.drew := HL.out.2.2.1.trans (b8d.mono HL.out.2.2.1.size)
        have rx1 : w10.drew.heap[W.heap.size + 1]? = some (.cells zD 26 (0, 0)) := (bVd.block _ (by omega)).trans HH.out.2.2.2.2.1
        have rx2 : w10.drew.heap[W.heap.size + 2]? = some (.cells zBk 30 (0, 0)) := (bVd.block _ (by omega)).trans HH.out.2.2.2.2.2.1
        obtain ⟨X1, hX1⟩ : ∃ X, w10.drew.setRow (W.heap.size + 1) #[.slice (some ⟨g0, 0, none⟩) n0 n0, .slice (some ⟨g1, 0, none⟩) n1 n1] = X := ⟨_, rfl⟩
        have st3 := st_D w10.drew (W.heap.size + 1) zD #[.slice (some ⟨g0, 0, none⟩) n0 n0, .slice (some ⟨g1, 0, none⟩) n1 n1] rfl rfl (by simp [Value.oneCell']) rx1
        rw [hX1] at st3
        have kdz := HK.out.2.2.2.2.1
        have ksz := HL.out.2.2.2.2.1
        have gbz : gb ≠ W.heap.size + 1 ∧ gb ≠ W.heap.size + 2 := by
          have q := World.block_lt_of_cell? W _ hug
          have q : gb < W.heap.size := q
          omega
        have SA : SL kd (.slice (some ⟨g0, 0, none⟩) n0 n0) (.slice (some ⟨g1, 0, none⟩) n1 n1) ks a0 a1 a2 a3 p4 p5 n4 n5 q4 q5 gb ((d + 1) * 3) (.slice v0 m2 z0) (.slice v1 m3 z1) (lb : Int) X1 := by rw [← hX1]; exact SL.set SB _ (by omega) (by omega) gbz.1
        have rx2b : X1.heap[W.heap.size + 2]? = some (.cells zBk 30 (0, 0)) := by rw [← hX1]; exact (setRow_other _ _ _ _ (by omega)).trans rx2
        obtain ⟨X2, hX2⟩ : ∃ X, X1.setRow (W.heap.size + 2) #[.slice v0 m2 z0, .slice v1 m3 z1, .int .i64 (lb : Int)] = X := ⟨_, rfl⟩
        have st4 := st_Bk X1 (W.heap.size + 2) zBk #[.slice v0 m2 z0, .slice v1 m3 z1, .int .i64 (lb : Int)] rfl rfl (by simp [Value.oneCell']) rx2b
        rw [hX2] at st4
        have st4 : (stBk (.pointer (some ⟨W.heap.size + 1 + 1, 0, none⟩)) (.agg #[.slice v0 m2 z0, .slice v1 m3 z1, .int .i64 (lb : Int)])).run Tryd.prog X1 = .ok () X2 := st4
        have SC : SL kd (.slice (some ⟨g0, 0, none⟩) n0 n0) (.slice (some ⟨g1, 0, none⟩) n1 n1) ks a0 a1 a2 a3 p4 p5 n4 n5 q4 q5 gb ((d + 1) * 3) (.slice v0 m2 z0) (.slice v1 m3 z1) (lb : Int) X2 := by rw [← hX2]; exact SL.set SA _ (by omega) (by omega) gbz.2
        have FIN := mkHid (show X2.heap[W.heap.size + 1]? = some (.cells #[.slice (some ⟨g0, 0, none⟩) n0 n0, .slice (some ⟨g1, 0, none⟩) n1 n1] 26 (0, 0)) ∧ X2.heap[W.heap.size + 2]? = some (.cells #[.slice v0 m2 z0, .slice v1 m3 z1, .int .i64 (lb : Int)] 30 (0, 0)) ∧ LfP W z kk0 kk1 B N g0 n0 g1 n1 (.slice v0 m2 z0) (.slice v1 m3 z1) lb X2 from by
          have sty : Stay B (fun t => t = 5 ∨ t = 23 ∨ t = 27) w10.drew X2 := fun k c t _ ht hc => by
            have k1 : k ≠ W.heap.size + 1 := row_ne hc rx1 (by rcases ht with rfl | rfl | rfl <;> decide)
            have k2 : k ≠ W.heap.size + 2 := row_ne hc rx2 (by rcases ht with rfl | rfl | rfl <;> decide)
            rw [← hX2, ← hX1]
            exact (setRow_other _ _ _ _ k2).trans (setRow_other _ _ _ _ k1)
          have b2d := HL.out.2.2.2.2.2.1.trans (b8d.mono HL.out.2.2.2.2.2.1.size)
          obtain ⟨u0, u1, -, -, -, g0z, g1z⟩ := HK.out
          refine ⟨?_, ?_, b9, ?_, ?_, ?_, ?_, HT2.out.2.2.2.1, ?_, ?_, ?_, by omega, by omega⟩
          · rw [← hX2, ← hX1]
            exact (setRow_other _ _ _ _ (by omega)).trans (setRow_heap _ _ _ _ _ _ rx1)
          · rw [← hX2]
            exact setRow_heap _ _ _ _ _ _ rx2b
          · rw [hy.out, ← hX2, ← hX1]
            exact bl_setR (bl_setR (u0.below b2d) (by omega)) (by omega)
          · rw [hy.out, ← hX2, ← hX1]
            exact bl_setR (bl_setR (u1.below b2d) (by omega)) (by omega)
          · rw [hy.out, HT2.out.2.2.1]
            exact HH.out.2.2.1
          · rw [hy.out]
            exact HH.out.2.2.2.1
          · have q := (HT2.out.1.keep (stay_below b8d)).keep (fun k c t h1 h2 h3 => sty k c t h1 (h2.elim .inl (fun q => .inr (.inl q))) h3)
            exact q
          · exact (HT2.out.2.1.keep (stay_below b8d)).keep sty
          · rw [← hX2, ← hX1]
            exact below_setRow (below_setRow bWd (by omega) _) (by omega) _)
        clear rx1 rx2 rx2b hX1 hX2 b8d bVd bWd kdz ksz gbz zV
        go_upto_region 11 with fail
        go_region_held3 (fun w' => SL kd (.slice (some ⟨g0, 0, none⟩) n0 n0) (.slice (some ⟨g1, 0, none⟩) n1 n1) ks a0 a1 a2 a3 p4 p5 n4 n5 q4 q5 gb ((d + 1) * 3) (.slice v0 m2 z0) (.slice v1 m3 z1) (lb : Int) w') (first | assumption | exact SB | exact SA | exact SC) (fail)
        go_wp2_with fail
        refine bodyPost_ret (results_DB rfl _ _ (W.heap.size + 1) (W.heap.size + 2) _ _ rfl rfl rfl FIN.out.1 rfl FIN.out.2.1) rfl ?_
        exact ⟨g0, n0, g1, n1, _, _, lb, rfl, FIN.out.2.2⟩
end Dev
end Go.Proofs.YtfimaflglnemdaaDoor
