/- Several texts in one: JuU, JuV, JuX. -/
import Derived.Test.YtfimaflglnemdaaDoorJuT
/- The journal's rows: a life: what stands between two steps. -/
namespace Go.Proofs.YtfimaflglnemdaaDoor
open Go.RowKit
open JM
set_option maxRecDepth 20000
namespace Dev
theorem byt_recw {k n : Nat} {b : List Nat} (hk : k < 256) (hb : Byt b) : Byt (recw k n b) := fun y hy => by
  unfold recw fr18 at hy
  simp only [List.mem_append] at hy
  rcases hy with (h | h) | h | h
  · exact fr14_byt hk y h
  · exact lb_byt _ _ y h
  · exact hb y h
  · exact lb_byt _ _ y h
theorem byt_recsw {k : Nat} (hk : k < 256) : ∀ {ls : List (List Nat)} {i : Nat}, (∀ b ∈ ls, Byt b) → Byt (recsw k i ls)
  | [], _, _ => fun y hy => by cases hy
  | b :: r, i, h => fun y hy => by
    rw [recsw] at hy
    rcases List.mem_append.1 hy with q | q
    · exact byt_recw hk (h b (List.mem_cons_self ..)) y q
    · exact byt_recsw hk (fun x hx => h x (List.mem_cons_of_mem _ hx)) y q
theorem byt_journalw {gen first : Nat} {base : List (List Nat)} {bs : List (List (List Nat))} (hb : Gl base) (hbs : ∀ b ∈ bs, Gl b) : Byt (journalw gen first base bs) := by
  intro y hy
  rcases List.mem_append.1 hy with q | q
  · unfold basew at q
    simp only [List.mem_append] at q
    rcases q with q | q | q
    · exact byt_recw (by decide) (lb_byt _ _) y q
    · exact byt_recsw (by decide) (fun b hb2 => (hb.b b hb2).2) y q
    · exact byt_recw (by decide) (fun z h => by cases h) y q
  · clear hy
    induction bs generalizing first with
    | nil => cases q
    | cons b r ih =>
      rw [batchesw] at q
      rcases List.mem_append.1 q with q | q
      · unfold batchw at q
        rcases List.mem_append.1 q with q | q
        · exact byt_recsw (by decide) (fun x hx => ((hbs b (List.mem_cons_self ..)).b x hx).2) y q
        · exact byt_recw (by decide) (lb_byt _ _) y q
      · exact ih (fun x hx => hbs x (List.mem_cons_of_mem _ hx)) q
theorem file_nil : file crcN [] = (St.new, none) := rfl
theorem rep_of {x : Sp} {live gen first : Nat} {base : List (List Nat)} {bs : List (List (List Nat))} (hl : live ≤ 1) (h2 : (fl x live).1 = journalw gen first base bs) (h3 : (fl x (1 - live)).1 = []) (g1 : 1 ≤ gen) (g2 : gen ≤ 1000) (f1 : 1 ≤ first) (f2 : first + bs.length ≤ 1000) (hb : Gl base) (hbs : ∀ b ∈ bs, Gl b) (hlen : (journalw gen first base bs).length ≤ 67108864) :
    rep x.1.1 x.2.1 = .story live ⟨true, true, (journalw gen first base bs).length, gen, first, base, bs, []⟩ := by
  have hf := file_journal (gen := gen) (first := first) (base := base) (bs := bs) g1 (by omega) f1 (by omega) (by omega) hb hbs
  obtain rfl | rfl : live = 0 ∨ live = 1 := by omega
  · have e0 : x.1.1 = journalw gen first base bs := h2
    have e1 : x.2.1 = [] := h3
    rw [e0, e1, rep_pick (by omega) (by rw [hf]) (by decide) (by rw [file_nil]), hf, file_nil]
    rfl
  · have e0 : x.2.1 = journalw gen first base bs := h2
    have e1 : x.1.1 = [] := h3
    rw [e0, e1, rep_pick (by decide) (by rw [file_nil]) (by omega) (by rw [hf]), hf, file_nil]
    rfl
section
variable [Inhabited HoleT] {lo j v lim live gen first n : Nat} {W : World} {base : List (List Nat)} {bs : List (List (List Nat))}
theorem Js.files (h : Js lo W j v lim live gen first n base bs) : ∃ x, Jn lo W j v lim live gen (first - 1 + bs.length) n x ∧ (fl x live).1 = journalw gen first base bs ∧ (fl x (1 - live)).1 = [] ∧ Byt x.1.1 ∧ Byt x.2.1 ∧ x.1.1.length ≤ 67108864 ∧ x.2.1.length ≤ 67108864 ∧ rep x.1.1 x.2.1 = .story live ⟨true, true, (journalw gen first base bs).length, gen, first, base, bs, []⟩ := by
  obtain ⟨x, h1, h2, h3⟩ := h.jn
  have hl : (journalw gen first base bs).length ≤ 67108864 := Nat.le_trans h.fit h.lim1
  have hb := byt_journalw (gen := gen) (first := first) h.gb h.gs
  have hr := rep_of h.lv1 h2 h3 h.g1 h.g2 h.f1 h.f2 h.gb h.gs hl
  have hlv := h.lv1
  refine ⟨x, h1, h2, h3, ?_, ?_, ?_, ?_, hr⟩
  all_goals
    obtain e | e : live = 0 ∨ live = 1 := by omega
    all_goals
      subst e
      first
        | (rw [show x.1.1 = journalw gen first base bs from h2]; assumption)
        | (rw [show x.2.1 = journalw gen first base bs from h2]; assumption)
        | (rw [show x.1.1 = [] from h3]; first | (intro y hy; cases hy) | exact Nat.zero_le _)
        | (rw [show x.2.1 = [] from h3]; first | (intro y hy; cases hy) | exact Nat.zero_le _)
theorem Js.story (h : Js lo W j v lim live gen first n base bs) : Calls Tryd.prog 20 #[.pointer (some ⟨j, 0, none⟩)] W fun e w' => ∃ t4 t5, e = .returned (.agg (styA live (journalw gen first base bs).length gen first t4 t5)) ∧ Ll W.heap.size w' t4 base ∧ Lb W.heap.size w' t5 bs ∧ Below W.heap.size W w' := by
  obtain ⟨x, h1, -, -, b0, b1, l0, l1, hr⟩ := h.files
  exact Story_any h1 h.tc b0 b1 l0 l1 hr
theorem Js.last (h : Js lo W j v lim live gen first n base bs) : Calls Tryd.prog 17 #[.pointer (some ⟨j, 0, none⟩)] W fun e w' => e = .returned (.int .i64 ((first - 1 + bs.length : Nat) : Int)) ∧ w' = W := let ⟨_, h1, _, _⟩ := h.jn; Last_any h1
theorem Js.count (h : Js lo W j v lim live gen first n base bs) : Calls Tryd.prog 9 #[.pointer (some ⟨v, 0, none⟩)] W fun e w' => e = .returned (.int .i64 (n : Int)) ∧ w' = W := let ⟨_, h1, _, _⟩ := h.jn; h1.count
end
/-- Between two steps: the journal, and the book of what it holds. -/
structure Ply [Inhabited HoleT] (lo : Nat) (w : World) (j v lim B i live gen first n : Nat) (base : List (List Nat)) (bs : List (List (List Nat))) (u0 u1 : Value) : Prop where
  js : Js lo w j v lim live gen first n base bs
  b0 : Ll B w u0 base
  b1 : Lb B w u1 bs
  q1 : gen ≤ i + 1
  q2 : first + bs.length ≤ i + 1
  q3 : n ≤ 2 + 3 * i
  q4 : (journalw gen first base bs).length ≤ 52 + i * 40492
  q6 : ∀ b ∈ bs, b.length ≤ 20
section
variable [Inhabited HoleT] {lo j v lim B i live gen first n : Nat} {W W' : World} {base : List (List Nat)} {bs : List (List (List Nat))} {u0 u1 : Value}
theorem Ply.below (h : Ply lo W j v lim B i live gen first n base bs u0 u1) (hb : Below W.heap.size W W') : Ply lo W' j v lim B i live gen first n base bs u0 u1 :=
  ⟨h.js.below hb, h.b0.keep (stay_below hb), h.b1.keep (stay_below hb), h.q1, h.q2, h.q3, h.q4, h.q6⟩
theorem Ply.free (h : Ply lo W j v lim B i live gen first n base bs u0 u1) (hf : Fre W W') (ht : Tc W') (hs : Stay B (fun t => t = 5 ∨ t = 23 ∨ t = 27) W W') : Ply lo W' j v lim B i live gen first n base bs u0 u1 :=
  ⟨h.js.free hf ht, h.b0.keep (fun k c t h1 h2 h3 => hs k c t h1 (h2.elim .inl (fun q => .inr (.inl q))) h3), h.b1.keep hs, h.q1, h.q2, h.q3, h.q4, h.q6⟩
theorem does_any {c : Bool} {uL : Value} {ls : List (List Nat)} {last : Nat} (h : Ply lo W j v 4194367 B i live gen first n base bs u0 u1) (hl : last = first - 1 + bs.length) (hi : i < 30) (hB : B ≤ W.heap.size) (hL : Lr W uL ls) (hLl : ∀ x ∈ ls, x.length ≤ Go.Proofs.YtfimaflglnemdaaDoor.LIM) :
    Calls Tryd.prog 37 #[.pointer (some ⟨j, 0, none⟩), .agg (bkA u0 u1 last), .agg #[.bool c, uL], .int .i64 4194367] W fun e w' => ∃ live' gen' first' n' base' bs' u0' u1', e = .returned (.tuple #[.agg (bkA u0' u1' (first' - 1 + bs'.length)), .bool true]) ∧ Ply lo w' j v 4194367 B (i + 1) live' gen' first' n' base' bs' u0' u1' ∧ Fo lo W w' ∧ (c = false → bs' ≠ []) := by
  have q1 := h.q1
  have q2 := h.q2
  have q3 := h.q3
  have q4 := h.q4
  have hs := sho_size ls
  have hf1 := h.js.f1
  have hi2 : i * 40492 ≤ 29 * 40492 := Nat.mul_le_mul_right _ (by omega)
  cases c with
  | true =>
    refine (does_compact (last := last) (u0 := u0) (u1 := u1) h.js hL hLl (by omega) (by omega) (by omega)).mono ?_
    rintro e w' ⟨l0, e1, e2, e3, e4⟩
    have hN : first + bs.length - 1 + ([] : List (List (List Nat))).length = last := by rw [hl]; simp; omega
    refine ⟨_, _, _, _, _, _, l0, .slice none 0 0, by rw [e1, hN], ⟨e3, e2.mono hB, Lb.nil _ _, by omega, by simp; omega, by omega, ?_, fun b h => (by cases h)⟩, e4, fun h => (by cases h)⟩
    rw [journalw_len, Nat.add_mul]
    simp [bsizes]
    omega
  | false =>
    refine (does_commit (last := last) h.js hl h.b0 h.b1 hB hL hLl (by omega) (by omega) (by omega)).mono ?_
    rintro e w' ⟨l1, e1, e2, e3, e4, e5⟩
    have hN : first - 1 + (bs ++ [sho ls]).length = last + 1 := by rw [hl]; simp; omega
    refine ⟨_, _, _, _, _, _, u0, l1, by rw [e1, hN], ⟨e4, e2, e3, by omega, by simp; omega, by omega, ?_, fun b hb => ?_⟩, e5, fun _ => (by simp)⟩
    · unfold journalw at q4 ⊢
      rw [batchesw_snoc, ← List.append_assoc, List.length_append, batchw_len, Nat.add_mul]
      omega
    · rcases List.mem_append.1 hb with h1 | h1
      · exact h.q6 b h1
      · rw [List.mem_singleton.1 h1]
        exact sho_len ls
end
end Dev
end Go.Proofs.YtfimaflglnemdaaDoor

/- The journal's rows: a life: its lists. -/
namespace Go.Proofs.YtfimaflglnemdaaDoor
open Go.RowKit
open JM
set_option maxRecDepth 20000
/-- A list of steps, as it lies. -/
def Ss (W : World) (u : Value) (ss : List (Bool × List (List Nat))) : Prop :=
  ∃ oa cap, u = .slice oa ss.length cap ∧ ss.length ≤ cap ∧ cap ≤ maxLen ∧ ∀ (i : Nat) (h : i < ss.length), ∃ (g o : Nat) (x : Value), oa = some ⟨g, o, none⟩ ∧ W.cell? ⟨g, o + i * 2, none⟩ = some (.bool ss[i].1) ∧ W.cell? ⟨g, o + i * 2 + 1, none⟩ = some x ∧ Lr W x ss[i].2 ∧ ∀ y ∈ ss[i].2, y.length ≤ LIM
theorem Ss.below {W W' : World} {u : Value} {ss : List (Bool × List (List Nat))} (h : Ss W u ss) (hb : Below W.heap.size W W') : Ss W' u ss := by
  obtain ⟨oa, cap, h1, h2, h3, h4⟩ := h
  refine ⟨oa, cap, h1, h2, h3, fun i hi => ?_⟩
  obtain ⟨g, o, x, e1, e2, e3, e4, e5⟩ := h4 i hi
  exact ⟨g, o, x, e1, cell_below hb e2, cell_below hb e3, e4.below hb, e5⟩
theorem Ss.sl {W : World} {u : Value} {ss : List (Bool × List (List Nat))} (h : Ss W u ss) : ∃ oa cap, u = .slice oa ss.length cap := let ⟨oa, cap, h1, _⟩ := h; ⟨oa, cap, h1⟩
def apI (ty : Nat) (vs : Array Value) : Sem Value := Builtin.append_ #[38, 38] ty vs
theorem toApI (ty : Nat) (vs : Array Value) : Builtin.append_ #[38, 38] ty vs = apI ty vs := rfl
def apK (ty : Nat) (vs : Array Value) : Sem Value := Builtin.append_ #[39, 39] ty vs
theorem toApK (ty : Nat) (vs : Array Value) : Builtin.append_ #[39, 39] ty vs = apK ty vs := rfl
theorem infoI : (Tryd.prog.info? 3).map (fun i => (i.zero, i.size, i.bytes)) = some (some (.int .i64 0), 1, 8) := by kernel_rfl
theorem infoK : (Tryd.prog.info? 30).map (fun i => (i.zero, i.size, i.bytes)) = some (some (.agg #[.slice none 0 0, .slice none 0 0, .int .i64 0]), 3, 56) := by kernel_rfl
theorem own_addI {w : World} {B n : Nat} {v : Value} {xs : List Value} (h : w.ownsRow B 3 1 v n xs) (hB : B ≤ w.heap.size) (hn : n < 1000000) (m : Int) :
    ∃ a c w', (apI 38 #[v, .slice (some ⟨w.heap.size, 0, none⟩) 1 1]).run Tryd.prog (w.alloc (.cells #[.int .i64 m] 3)) = .ok (.slice a (n + 1) c) w' ∧ w'.ownsRow B 3 1 (.slice a (n + 1) c) (n + 1) (xs ++ [.int .i64 m]) ∧ (w.alloc (.cells #[.int .i64 m] 3)).grownBy w' v.ownBlock := by
  obtain ⟨i0, hi0, hz0, hz1, hz2⟩ := info_parts infoI
  have hA : (w.alloc (.cells #[.int .i64 m] 3)).ownsRow B 3 1 v n xs := own_keep h (fun k c _ hc => heap_alloc_old _ _ (h := (Array.getElem?_eq_some_iff.1 hc).1))
  obtain ⟨v', w', hr, ho, hg, -, -⟩ := run_append_own_at (P := Tryd.prog) (w.alloc (.cells #[.int .i64 m] 3)) B 38 38 3 i0 _ 1 8 Tryd.underlying38 hi0 hz0 hz1 hz2 rfl (by omega) v n xs hA ⟨w.heap.size, 0, none⟩ 1 1 [.int .i64 m] rfl (fun j y hy => by
    match j, hy with
    | 0, hy =>
      injection hy with hy
      subst hy
      exact (cell_of_row _ _ _ _ _ _ (heap_alloc_new _ _)).trans rfl) (fun y hy => by rw [List.mem_singleton.1 hy]; rfl) (by unfold maxLen; omega) (by omega) (by simp; omega)
  obtain ⟨a, c, rfl⟩ := own_sl ho
  exact ⟨a, c, w', hr, ho, hg⟩
theorem own_addK {w : World} {B n : Nat} {v : Value} {xs : List Value} (h : w.ownsRow B 30 3 v n xs) (hB : B ≤ w.heap.size) (hn : n < 1000000) (y0 y1 y2 : Value) (h0 : y0.oneCell' = true) (h1 : y1.oneCell' = true) (h2 : y2.oneCell' = true) :
    ∃ a c w', (apK 39 #[v, .slice (some ⟨w.heap.size, 0, none⟩) 1 1]).run Tryd.prog (w.alloc (.cells #[y0, y1, y2] 30)) = .ok (.slice a (n + 1) c) w' ∧ w'.ownsRow B 30 3 (.slice a (n + 1) c) (n + 1) (xs ++ [y0, y1, y2]) ∧ (w.alloc (.cells #[y0, y1, y2] 30)).grownBy w' v.ownBlock := by
  obtain ⟨i0, hi0, hz0, hz1, hz2⟩ := info_parts infoK
  have hA : (w.alloc (.cells #[y0, y1, y2] 30)).ownsRow B 30 3 v n xs := own_keep h (fun k c _ hc => heap_alloc_old _ _ (h := (Array.getElem?_eq_some_iff.1 hc).1))
  obtain ⟨v', w', hr, ho, hg, -, -⟩ := run_append_own_at (P := Tryd.prog) (w.alloc (.cells #[y0, y1, y2] 30)) B 39 39 30 i0 _ 3 56 Tryd.underlying39 hi0 hz0 hz1 hz2 rfl (by omega) v n xs hA ⟨w.heap.size, 0, none⟩ 1 1 [y0, y1, y2] rfl (fun j y hy => by
    match j, hy with
    | 0, hy => exact (cell_of_row _ _ _ _ _ _ (heap_alloc_new _ _)).trans hy
    | 1, hy => exact (cell_of_row _ _ _ _ _ _ (heap_alloc_new _ _)).trans hy
    | 2, hy => exact (cell_of_row _ _ _ _ _ _ (heap_alloc_new _ _)).trans hy) (fun y hy => by
      simp only [List.mem_cons, List.not_mem_nil, or_false] at hy
      rcases hy with rfl | rfl | rfl
      · exact h0
      · exact h1
      · exact h2) (by unfold maxLen; omega) (by omega) (by simp; omega)
  obtain ⟨a, c, rfl⟩ := own_sl ho
  exact ⟨a, c, w', hr, ho, hg⟩
namespace Dev
/-- No byte. -/
def Nu (y : Value) : Prop := ∀ m, y ≠ .int .u8 m
theorem fre_grown {w w' : World} {B e sz n : Nat} {v : Value} {xs : List Value} {o : Obj} (h : w.ownsRow B e sz v n xs) (hx : ∃ y, xs[0]? = some y ∧ Nu y) (ht : e ≠ 120 ∧ e ≠ 93 ∧ e ≠ 90 ∧ e ≠ 101) (hg : (w.alloc o).grownBy w' v.ownBlock) : Fre w w' := by
  refine ⟨Nat.le_trans (by simp) hg.size, fun g hk => ?_⟩
  by_cases e1 : v.ownBlock = some g
  · rcases h.2 with ⟨h1, _⟩ | ⟨g', cap, cur, h1, h2, h3, h4, h5, h6, h7⟩
    · rw [h1] at e1; cases e1
    · rw [h1] at e1
      simp [Value.ownBlock] at e1
      subst e1
      refine .inr ⟨cur, e, h3, ht, fun m hm => ?_⟩
      obtain ⟨y, y1, y2⟩ := hx
      have hlen : 0 < xs.length := (List.getElem?_eq_some_iff.1 y1).1
      rw [← h7, List.getElem?_take] at y1
      split at y1
      · rw [Array.getElem?_toList, hm] at y1
        injection y1 with y1
        exact y2 m y1.symm
      · cases y1
  · exact .inl ((hg.block g (by simp; omega) (fun e => e1 e.symm)).trans (heap_alloc_old _ _ (h := hk)))
theorem grown_oth {w w' : World} {B e sz n : Nat} {v : Value} {xs : List Value} {o : Obj} (h : w.ownsRow B e sz v n xs) (hg : (w.alloc o).grownBy w' v.ownBlock) {k t : Nat} {c : Array Value} (hc : w.heap[k]? = some (.cells c t (0, 0))) (ht : t ≠ e ∨ k < B) : w'.heap[k]? = some (.cells c t (0, 0)) := by
  have hk := (Array.getElem?_eq_some_iff.1 hc).1
  refine ((hg.block k (by simp; omega) (fun e1 => ?_)).trans (heap_alloc_old _ _ (h := hk))).trans hc
  rcases h.2 with ⟨h1, _⟩ | ⟨g', cap, cur, h1, h2, h3, _⟩
  · rw [h1] at e1; cases e1
  · rw [h1] at e1
    simp [Value.ownBlock] at e1
    subst e1
    rcases ht with ht | ht
    · rw [hc] at h3
      injection h3 with h3
      injection h3 with _ h3
      exact ht h3
    · omega
/-- What a life has at hand beside its journal: its book, its arguments, the counts and the books so far. -/
structure Lw (W : World) (lo mc mb : Nat) (cv bv : Value) (xs rs : List Value) (R L : Array Value) (wr : World) : Prop where
  rb : wr.heap[W.heap.size + 1]? = some (.cells R 30 (0, 0))
  rl : wr.heap[W.heap.size + 2]? = some (.cells L 36 (0, 0))
  bel : Below W.heap.size W wr
  oc : wr.ownsRow (W.heap.size + 3) 3 1 cv mc xs
  ob : wr.ownsRow (W.heap.size + 3) 30 3 bv mb rs
  hc : ∃ y, xs[0]? = some y ∧ Nu y
  hb : ∃ y, rs[0]? = some y ∧ Nu y
  r0 : ∃ y, R[0]? = some y ∧ Nu y
  lo3 : W.heap.size + 3 ≤ lo
  sz : lo ≤ wr.heap.size
section
variable {W : World} {lo mc mb : Nat} {cv bv : Value} {xs rs : List Value} {R L : Array Value} {wr w' : World}
theorem Lw.below (h : Lw W lo mc mb cv bv xs rs R L wr) (hb : Below wr.heap.size wr w') : Lw W lo mc mb cv bv xs rs R L w' := by
  have hk : ∀ (k : Nat) o, wr.heap[k]? = some o → w'.heap[k]? = some o := fun k o hk => (hb.block k (Array.getElem?_eq_some_iff.1 hk).1).trans hk
  exact ⟨hk _ _ h.rb, hk _ _ h.rl, h.bel.trans (hb.mono h.bel.size), own_keep h.oc (fun k c _ hc => hb.block k (Array.getElem?_eq_some_iff.1 hc).1), own_keep h.ob (fun k c _ hc => hb.block k (Array.getElem?_eq_some_iff.1 hc).1), h.hc, h.hb, h.r0, h.lo3, Nat.le_trans h.sz hb.size⟩
theorem Lw.fo (h : Lw W lo mc mb cv bv xs rs R L wr) (hf : Fo lo wr w') : Lw W lo mc mb cv bv xs rs R L w' := by
  have hl := h.lo3
  refine ⟨hf.row h.rb (by decide) (by decide) (by decide), hf.row h.rl (by decide) (by decide) (by decide), ?_, own_keep h.oc (fun k c _ hc => hf.oth k c _ hc (by decide) (by decide) (by decide)), own_keep h.ob (fun k c _ hc => hf.oth k c _ hc (by decide) (by decide) (by decide)), h.hc, h.hb, h.r0, h.lo3, Nat.le_trans h.sz hf.size⟩
  exact ⟨hf.os.trans h.bel.os, hf.tape.trans h.bel.tape, hf.output.trans h.bel.output, Nat.le_trans h.bel.size hf.size, fun k hk => (hf.low k (by omega) (by have := h.bel.size; omega)).trans (h.bel.block k hk)⟩
theorem Lw.setR (h : Lw W lo mc mb cv bv xs rs R L wr) (R' : Array Value) (hR : ∃ y, R'[0]? = some y ∧ Nu y) : Lw W lo mc mb cv bv xs rs R' L (wr.setRow (W.heap.size + 1) R') := by
  refine ⟨setRow_heap _ _ _ _ _ _ h.rb, (setRow_other _ _ _ _ (by omega)).trans h.rl, below_setRow h.bel (by omega) _, own_keep h.oc (fun k c hk hc => setRow_other _ _ _ _ (by omega)), own_keep h.ob (fun k c hk hc => setRow_other _ _ _ _ (by omega)), h.hc, h.hb, hR, h.lo3, by rw [size_setRow]; exact h.sz⟩
theorem Lw.freR (h : Lw W lo mc mb cv bv xs rs R L wr) (R' : Array Value) : Fre wr (wr.setRow (W.heap.size + 1) R') := Fre.setRow h.rb (by decide) (fun m hm => by
  obtain ⟨y, y1, y2⟩ := h.r0
  rw [y1] at hm
  injection hm with hm
  exact y2 m hm) _
theorem head_app {xs ys : List Value} (h : ∃ y, xs[0]? = some y ∧ Nu y) : ∃ y, (xs ++ ys)[0]? = some y ∧ Nu y := by
  obtain ⟨y, h1, h2⟩ := h
  exact ⟨y, by rw [List.getElem?_append_left (List.getElem?_eq_some_iff.1 h1).1]; exact h1, h2⟩
theorem Lw.addC (h : Lw W lo mc mb cv bv xs rs R L wr) {c' : Value} {ys : List Value} {o : Obj} (ho : w'.ownsRow (W.heap.size + 3) 3 1 c' (mc + 1) (xs ++ ys)) (hg : (wr.alloc o).grownBy w' cv.ownBlock) : Lw W lo (mc + 1) mb c' bv (xs ++ ys) rs R L w' ∧ Fre wr w' ∧ ∀ B, Stay B (fun t => t = 5 ∨ t = 23 ∨ t = 27) wr w' := by
  refine ⟨⟨grown_oth h.oc hg h.rb (.inl (by decide)), grown_oth h.oc hg h.rl (.inl (by decide)), ?_, ho, own_keep h.ob (fun k c hk hc => (grown_oth h.oc hg hc (.inl (by decide))).trans hc.symm), head_app h.hc, h.hb, h.r0, h.lo3, ?_⟩, fre_grown h.oc h.hc (by decide) hg, fun B k c t _ ht hc => (grown_oth h.oc hg hc (.inl (by rcases ht with rfl | rfl | rfl <;> decide))).trans hc.symm⟩
  · exact below_grown hg (h.bel.alloc (h.bel.size) _) (Nat.le_refl _) (fun k e => by have := own_lo h.oc e; omega)
  · exact Nat.le_trans h.sz (Nat.le_trans (by simp) hg.size)
theorem Lw.addB (h : Lw W lo mc mb cv bv xs rs R L wr) {c' : Value} {ys : List Value} {o : Obj} (ho : w'.ownsRow (W.heap.size + 3) 30 3 c' (mb + 1) (rs ++ ys)) (hg : (wr.alloc o).grownBy w' bv.ownBlock) : Lw W lo mc (mb + 1) cv c' xs (rs ++ ys) R L w' ∧ Fre wr w' ∧ ∀ B, Stay B (fun t => t = 5 ∨ t = 23 ∨ t = 27) wr w' := by
  refine ⟨⟨grown_oth h.ob hg h.rb (.inr (by omega)), grown_oth h.ob hg h.rl (.inl (by decide)), ?_, own_keep h.oc (fun k c hk hc => (grown_oth h.ob hg hc (.inl (by decide))).trans hc.symm), ho, h.hc, head_app h.hb, h.r0, h.lo3, ?_⟩, fre_grown h.ob h.hb (by decide) hg, fun B k c t _ ht hc => (grown_oth h.ob hg hc (.inl (by rcases ht with rfl | rfl | rfl <;> decide))).trans hc.symm⟩
  · exact below_grown hg (h.bel.alloc (h.bel.size) _) (Nat.le_refl _) (fun k e => by have := own_lo h.ob e; omega)
  · exact Nat.le_trans h.sz (Nat.le_trans (by simp) hg.size)
end
end Dev
end Go.Proofs.YtfimaflglnemdaaDoor

/- The journal's rows: a life: a step. -/
namespace Go.Proofs.YtfimaflglnemdaaDoor
open Go.RowKit
open JM
set_option maxRecDepth 20000
namespace Dev
theorem nu_slice (a : Option Addr) (n c : Nat) : Nu (.slice a n c) := fun m h => by cases h
theorem nu_int (m : Int) : Nu (.int .i64 m) := fun k h => by cases h
def lifA (us : Value) : Array Value := #[.int .i64 4194303, us, .int .i64 0, .int .i64 0, .int .i64 0]
theorem own_keepB {w w' : World} {B e sz n : Nat} {v : Value} {xs : List Value} (h : w.ownsRow B e sz v n xs) (hk : ∀ k, v.ownBlock = some k → k < w.heap.size → w'.heap[k]? = w.heap[k]?) : w'.ownsRow B e sz v n xs := by
  obtain ⟨h1, h2 | ⟨g, cap, cur, h2, h3, h4, h5⟩⟩ := h
  · exact ⟨h1, .inl h2⟩
  · exact ⟨h1, .inr ⟨g, cap, cur, h2, h3, (hk g (by rw [h2]; rfl) (Array.getElem?_eq_some_iff.1 h4).1).trans h4, h5⟩⟩
theorem own_ty {w : World} {B e sz n k : Nat} {v : Value} {xs : List Value} (h : w.ownsRow B e sz v n xs) (hk : v.ownBlock = some k) : ∃ c, w.heap[k]? = some (.cells c e (0, 0)) := by
  rcases h.2 with ⟨h1, _⟩ | ⟨g, cap, cur, h1, h2, h3, _⟩
  · rw [h1] at hk; cases hk
  · rw [h1] at hk; simp [Value.ownBlock] at hk; subst hk; exact ⟨cur, h3⟩
/-- The cells that a step is asked of. -/
abbrev S11 (W : World) (R0 R1 R2 us : Value) (g q : Nat) (c : Bool) (x : Value) (w : World) : Prop := w.cell? ⟨W.heap.size + 1, 0, none⟩ = some R0 ∧ w.cell? ⟨W.heap.size + 1, 1, none⟩ = some R1 ∧ w.cell? ⟨W.heap.size + 1, 2, none⟩ = some R2 ∧ w.cell? ⟨W.heap.size + 1 + 1, 1, none⟩ = some us ∧ w.cell? ⟨g, q, none⟩ = some (.bool c) ∧ w.cell? ⟨g, q + 1, none⟩ = some x
section
variable {W : World} {lo mc mb : Nat} {cv bv : Value} {xs rs : List Value} {R0 R1 R2 us : Value} {wr w' : World}
theorem S11.of {g q : Nat} {c : Bool} {x : Value} (h : Lw W lo mc mb cv bv xs rs #[R0, R1, R2] (lifA us) wr) (h1 : W.cell? ⟨g, q, none⟩ = some (.bool c)) (h2 : W.cell? ⟨g, q + 1, none⟩ = some x) : S11 W R0 R1 R2 us g q c x wr :=
  ⟨(cell_of_row _ _ _ _ _ _ h.rb).trans rfl, (cell_of_row _ _ _ _ _ _ h.rb).trans rfl, (cell_of_row _ _ _ _ _ _ h.rb).trans rfl, (cell_of_row _ _ _ _ _ _ h.rl).trans rfl, cell_below h.bel h1, cell_below h.bel h2⟩
/-- A row that was made since is written over. -/
theorem Lw.setK {R L : Array Value} (h : Lw W lo mc mb cv bv xs rs R L wr) (h' : Lw W lo mc mb cv bv xs rs R L w') {k : Nat} (hz : wr.heap.size ≤ k) (D : Array Value) : Lw W lo mc mb cv bv xs rs R L (w'.setRow k D) := by
  have z1 := (Array.getElem?_eq_some_iff.1 h.rb).1
  have z2 := (Array.getElem?_eq_some_iff.1 h.rl).1
  refine ⟨(setRow_other _ _ _ _ (by omega)).trans h'.rb, (setRow_other _ _ _ _ (by omega)).trans h'.rl, below_setRow h'.bel (by have := h.bel.size; omega) _, own_keepB h'.oc (fun i hi _ => setRow_other _ _ _ _ ?_), own_keepB h'.ob (fun i hi _ => setRow_other _ _ _ _ ?_), h.hc, h.hb, h.r0, h.lo3, by rw [size_setRow]; exact h'.sz⟩
  · obtain ⟨c, hc⟩ := own_ty h.oc hi
    have := (Array.getElem?_eq_some_iff.1 hc).1
    omega
  · obtain ⟨c, hc⟩ := own_ty h.ob hi
    have := (Array.getElem?_eq_some_iff.1 hc).1
    omega
end
def zBk : Array Value := #[.slice none 0 0, .slice none 0 0, .int .i64 0]
/-- A step of a life. -/
theorem does_step [Inhabited HoleT] {W wr X : World} {lo j v i mc mb live gen first n : Nat} {cv bv : Value} {xs rs : List Value} {base : List (List Nat)} {bs : List (List (List Nat))} {u0 u1 us uL : Value} {ls : List (List Nat)} {c : Bool} {g q : Nat} {last : Nat} (hP : Ply lo wr j v 4194367 W.heap.size i live gen first n base bs u0 u1) (hW : Lw W lo mc mb cv bv xs rs #[u0, u1, .int .i64 (last : Int)] (lifA us) wr) (hl : last = first - 1 + bs.length) (hX : Below wr.heap.size wr X) (hi : i < 30) (h1 : W.cell? ⟨g, q, none⟩ = some (.bool c)) (h2 : W.cell? ⟨g, q + 1, none⟩ = some uL) (hL : Lr W uL ls) (hLl : ∀ x ∈ ls, x.length ≤ Go.Proofs.YtfimaflglnemdaaDoor.LIM) :
    Calls Tryd.prog 37 #[.pointer (some ⟨j, 0, none⟩), .agg #[u0, u1, .int .i64 (last : Int)], .agg #[.bool c, uL], .int .i64 4194367] X fun e w' => ∃ (live' gen' first' n' : Nat) (base' : List (List Nat)) (bs' : List (List (List Nat))) (u0' u1' : Value) (last' : Nat), e = .returned (.tuple #[.agg #[u0', u1', .int .i64 (last' : Int)], .bool true]) ∧ Hid (last' = first' - 1 + bs'.length ∧ Ply lo w' j v 4194367 W.heap.size (i + 1) live' gen' first' n' base' bs' u0' u1' ∧ Lw W lo mc mb cv bv xs rs #[u0, u1, .int .i64 (last : Int)] (lifA us) w' ∧ Fo lo X w' ∧ (c = false → bs' ≠ [])) ∧ S11 W u0 u1 (.int .i64 (last : Int)) us g q c uL w' := by
  have hWX := hW.below hX
  refine (does_any (hP.below hX) hl hi hWX.bel.size (hL.below hWX.bel) hLl).mono ?_
  rintro e w' ⟨live', gen', first', n', base', bs', u0', u1', e1, e2, e3, e4⟩
  exact ⟨live', gen', first', n', base', bs', u0', u1', _, e1, ⟨rfl, e2, hWX.fo e3, e3, e4⟩, S11.of (hWX.fo e3) h1 h2⟩
/-- What a step has left: the book's new state in block k. -/
structure Nxt [Inhabited HoleT] (W : World) (lo j v i mc mb : Nat) (cv bv : Value) (xs rs : List Value) (R L : Array Value) (live gen first n : Nat) (base : List (List Nat)) (bs : List (List (List Nat))) (u0 u1 : Value) (last k : Nat) (P : Prop) (Y : World) : Prop where
  hl : last = first - 1 + bs.length
  ply : Ply lo Y j v 4194367 W.heap.size i live gen first n base bs u0 u1
  lw : Lw W lo mc mb cv bv xs rs R L Y
  row : Y.heap[k]? = some (.cells #[u0, u1, .int .i64 (last : Int)] 30 (0, 0))
  ne : P → bs ≠ []
theorem nxtA [Inhabited HoleT] {W wr X w' : World} {lo j v i mc mb live gen first n : Nat} {cv bv : Value} {xs rs : List Value} {R L : Array Value} {base : List (List Nat)} {bs : List (List (List Nat))} {u0 u1 : Value} {last k : Nat} {P : Prop} (hT : Tc W) (h0 : Lw W lo mc mb cv bv xs rs R L wr) (hk : X.heap[k]? = some (.cells zBk 30 (0, 0))) (hz : wr.heap.size ≤ k) (h : last = first - 1 + bs.length ∧ Ply lo w' j v 4194367 W.heap.size i live gen first n base bs u0 u1 ∧ Lw W lo mc mb cv bv xs rs R L w' ∧ Fo lo X w' ∧ (P → bs ≠ [])) :
    (stBk (.pointer (some ⟨k, 0, none⟩)) (.agg #[u0, u1, .int .i64 (last : Int)])).run Tryd.prog w' = .ok () (w'.setRow k #[u0, u1, .int .i64 (last : Int)]) ∧ Nxt W lo j v i mc mb cv bv xs rs R L live gen first n base bs u0 u1 last k P (w'.setRow k #[u0, u1, .int .i64 (last : Int)]) := by
  obtain ⟨h1, h2, h3, h4, h5⟩ := h
  have hr := h4.row hk (by decide) (by decide) (by decide)
  obtain ⟨_, _, e0⟩ := h2.b0.sl
  obtain ⟨_, _, e1⟩ := h2.b1.sl
  have hL := h0.setK h3 hz #[u0, u1, .int .i64 (last : Int)]
  refine ⟨st_Bk w' k zBk _ rfl rfl (by rw [e0, e1]; simp [Value.oneCell']) hr, ⟨h1, h2.free (Fre.setRow hr (by decide) (by intro m hm; simp [zBk] at hm) _) (hT.below hL.bel hT.sz) (fun i c t _ ht hc => setRow_other _ _ _ _ (row_ne hc hr ?_)), hL, setRow_heap _ _ _ _ _ _ hr, h5⟩⟩
  rcases ht with rfl | rfl | rfl <;> decide
theorem nxtB [Inhabited HoleT] {W X w' : World} {lo j v i mc mb live gen first n : Nat} {cv bv : Value} {xs rs : List Value} {R L : Array Value} {base : List (List Nat)} {bs : List (List (List Nat))} {u0 u1 : Value} {last : Nat} {P : Prop} (h : last = first - 1 + bs.length ∧ Ply lo w' j v 4194367 W.heap.size i live gen first n base bs u0 u1 ∧ Lw W lo mc mb cv bv xs rs R L w' ∧ Fo lo X w' ∧ (P → bs ≠ [])) :
    (stBk (.pointer (some ⟨w'.heap.size, 0, none⟩)) (.agg #[u0, u1, .int .i64 (last : Int)])).run Tryd.prog (w'.alloc (.cells #[.slice none 0 0, .slice none 0 0, .int .i64 0] 30)) = .ok () (w'.alloc (.cells #[u0, u1, .int .i64 (last : Int)] 30)) ∧ Nxt W lo j v i mc mb cv bv xs rs R L live gen first n base bs u0 u1 last w'.heap.size P (w'.alloc (.cells #[u0, u1, .int .i64 (last : Int)] 30)) ∧ Lw W lo mc mb cv bv xs rs R L (w'.alloc (.cells #[.slice none 0 0, .slice none 0 0, .int .i64 0] 30)) := by
  obtain ⟨h1, h2, h3, h4, h5⟩ := h
  obtain ⟨_, _, e0⟩ := h2.b0.sl
  obtain ⟨_, _, e1⟩ := h2.b1.sl
  have ba : ∀ o, Below w'.heap.size w' (w'.alloc o) := fun o => (Below.refl _ w').alloc (Nat.le_refl _) _
  refine ⟨(st_Bk _ _ zBk _ rfl rfl (by rw [e0, e1]; simp [Value.oneCell']) (heap_alloc_new _ _)).trans (by rw [World.setRow_alloc_new]), ⟨h1, h2.below (ba _), h3.below (ba _), heap_alloc_new _ _, h5⟩, h3.below (ba _)⟩
end Dev
end Go.Proofs.YtfimaflglnemdaaDoor
