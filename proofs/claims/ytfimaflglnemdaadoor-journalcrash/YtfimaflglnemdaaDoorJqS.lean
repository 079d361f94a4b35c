/- Several texts in one: JcO, JcP. -/
import Derived.Test.YtfimaflglnemdaaDoorJqR
import Derived.Test.YtfimaflglnemdaaDoorJqG
/- JournalCrash: what every moment of a life holds, and its books as they lie. -/
namespace Go.Proofs.YtfimaflglnemdaaDoor
open Go.RowKit
open JM
set_option maxRecDepth 20000
theorem snoc_get {α : Type} {l : List α} {x y : α} {i : Nat} (h : (l ++ [x])[i]? = some y) : (i < l.length ∧ l[i]? = some y) ∨ (i = l.length ∧ y = x) := by
  by_cases c : i < l.length
  · rw [List.getElem?_append_left c] at h
    exact .inl ⟨c, h⟩
  · by_cases c2 : i = l.length
    · subst c2
      rw [List.getElem?_append_right (Nat.le_refl _), Nat.sub_self] at h
      exact .inr ⟨rfl, (Option.some.inj h).symm⟩
    · have := (List.getElem?_eq_some_iff.1 h).1
      rw [List.length_append, List.length_singleton] at this
      omega
namespace Dev
namespace Cr
/-- What every moment of a life holds: cs the counts behind its calls, bks the books. -/
structure Hst (N : Nat) (sp : List Sp) (cs : List Nat) (bks : List Bk) : Prop where
  len : bks.length = cs.length
  pos : 0 < cs.length
  op : ∀ (k : Nat) (z : Sp) (c : Nat) (b : Bk), sp[k]? = some z → cs[0]? = some c → bks[0]? = some b → k ≤ c → ∀ k0 k1, Dsk N b (crash z k0 k1)
  here : ∀ (i : Nat) (z : Sp) (c : Nat) (b : Bk), cs[i]? = some c → bks[i]? = some b → sp[c]? = some z → ∀ k0 k1, Dsk N b (crash z k0 k1)
  btw : ∀ (i k : Nat) (z : Sp) (c d : Nat) (a b : Bk), cs[i]? = some c → cs[i + 1]? = some d → bks[i]? = some a → bks[i + 1]? = some b → c < k → k < d → sp[k]? = some z → ∀ k0 k1, Dsk N a (crash z k0 k1) ∨ Dsk N b (crash z k0 k1)
  last : cs[cs.length - 1]? = some (sp.length - 1)
  spos : 0 < sp.length
  le : ∀ (i c : Nat), cs[i]? = some c → c < sp.length
  lim : ∀ z ∈ sp, Lim z
theorem Opd.hst {N live gen first : Nat} {b : Bk} {x : Sp} {L : List Sp} (o : Opd N b live gen first x L) (hx : Lim x) : Hst N (x :: L) [L.length] [b] := by
  refine ⟨rfl, by simp, fun k z c b' h1 h2 h3 h4 k0 k1 => ?_, fun i z c b' h1 h2 h3 k0 k1 => ?_, fun i k z c d a b' h1 h2 h3 h4 => ?_, by simp, by simp, fun i c h => ?_, o.lim hx⟩
  · injection h3 with h3
    subst h3
    exact o.all z (List.mem_of_getElem? h1) k0 k1
  · have hi := (List.getElem?_eq_some_iff.1 h2).1
    obtain rfl : i = 0 := by simpa using hi
    injection h2 with h2
    subst h2
    exact o.all z (List.mem_of_getElem? h3) k0 k1
  · have := (List.getElem?_eq_some_iff.1 h2).1
    simp at this
  · have hi := (List.getElem?_eq_some_iff.1 h).1
    obtain rfl : i = 0 := by simpa using hi
    injection h with h
    rw [List.length_cons]
    omega
theorem Hst.mono {N M : Nat} {sp : List Sp} {cs : List Nat} {bks : List Bk} (h : Hst N sp cs bks) (hM : N ≤ M) : Hst M sp cs bks :=
  ⟨h.len, h.pos, fun k z c b h1 h2 h3 h4 k0 k1 => (h.op k z c b h1 h2 h3 h4 k0 k1).mono hM, fun i z c b h1 h2 h3 k0 k1 => (h.here i z c b h1 h2 h3 k0 k1).mono hM, fun i k z c d a b h1 h2 h3 h4 h5 h6 h7 k0 k1 => (h.btw i k z c d a b h1 h2 h3 h4 h5 h6 h7 k0 k1).imp (·.mono hM) (·.mono hM), h.last, h.spos, h.le, h.lim⟩
theorem Hst.step {N : Nat} {sp L pre : List Sp} {cs : List Nat} {bks : List Bk} {a b : Bk} {z : Sp} (h : Hst N sp cs bks) (ha : bks[bks.length - 1]? = some a) (hf : Few L) (hL : ∀ z ∈ L, ∀ k0 k1, Dsk N a (crash z k0 k1) ∨ Dsk N b (crash z k0 k1)) (hz : sp ++ L = pre ++ [z]) (hd : ∀ k0 k1, Dsk N b (crash z k0 k1)) : Hst N (sp ++ L) (cs ++ [(sp ++ L).length - 1]) (bks ++ [b]) := by
  have hlen := h.len
  have hpos := h.pos
  have hsp := h.spos
  refine ⟨by simp [hlen], by simp, fun k y c b' h1 h2 h3 h4 k0 k1 => ?_, fun i y c b' h1 h2 h3 k0 k1 => ?_, fun i k y c d a' b' h1 h2 h3 h4 h5 h6 h7 k0 k1 => ?_, ?_, by simp; omega, fun i c h1 => ?_, fun y hy => ?_⟩
  · rw [List.getElem?_append_left hpos] at h2
    rw [List.getElem?_append_left (by omega)] at h3
    have := h.le 0 c h2
    rw [List.getElem?_append_left (by omega)] at h1
    exact h.op k y c b' h1 h2 h3 h4 k0 k1
  · rcases snoc_get h1 with ⟨i1, h1⟩ | ⟨i1, rfl⟩
    · rw [List.getElem?_append_left (by omega)] at h2
      have := h.le i c h1
      rw [List.getElem?_append_left this] at h3
      exact h.here i y c b' h1 h2 h3 k0 k1
    · rcases snoc_get h2 with ⟨i2, h2⟩ | ⟨i2, rfl⟩
      · omega
      · rw [hz, List.length_append, List.length_singleton, Nat.add_sub_cancel, List.getElem?_append_right (Nat.le_refl _), Nat.sub_self] at h3
        injection h3 with h3
        subst h3
        exact hd k0 k1
  · rcases snoc_get h2 with ⟨i1, h2⟩ | ⟨i1, rfl⟩
    · rw [List.getElem?_append_left (by omega)] at h1 h3 h4
      have := h.le (i + 1) d h2
      rw [List.getElem?_append_left (by omega)] at h7
      exact h.btw i k y c d a' b' h1 h2 h3 h4 h5 h6 h7 k0 k1
    · rw [List.getElem?_append_left (by omega)] at h1 h3
      have e1 := h.last
      rw [show cs.length - 1 = i by omega, h1] at e1
      injection e1 with e1
      rw [show bks.length - 1 = i by omega, h3] at ha
      injection ha with ha
      subst ha
      rcases snoc_get h4 with ⟨i2, h4⟩ | ⟨i2, rfl⟩
      · omega
      · rw [List.getElem?_append_right (by omega)] at h7
        exact hL y (List.mem_of_getElem? h7) k0 k1
  · rw [show (cs ++ [(sp ++ L).length - 1]).length - 1 = cs.length by simp, List.getElem?_append_right (Nat.le_refl _), Nat.sub_self]
    rfl
  · rcases snoc_get h1 with ⟨i1, h1⟩ | ⟨i1, rfl⟩
    · have := h.le i c h1
      rw [List.length_append]
      omega
    · rw [List.length_append]
      omega
  · rcases List.mem_append.1 hy with q | q
    · exact h.lim y q
    · exact hf.2 y q
/-- What a moment's disk holds, by what the search among the counts has found. -/
theorem Hst.told {N at_ done : Nat} {sp : List Sp} {cs : List Nat} {bks : List Bk} {a : Bk} {z : Sp} (h : Hst N sp cs bks) (hz : sp[at_]? = some z) (ha : bks[done]? = some a) (h1 : done = 0 ∨ ∃ c, cs[done]? = some c ∧ c ≤ at_) (h2 : done + 1 = cs.length ∨ ∃ d, cs[done + 1]? = some d ∧ at_ < d) (k0 k1 : Nat) :
    Dsk N a (crash z k0 k1) ∨ ∃ c b, cs[done]? = some c ∧ c < at_ ∧ done + 1 < cs.length ∧ bks[done + 1]? = some b ∧ Dsk N b (crash z k0 k1) := by
  have hlen := h.len
  have hd := (List.getElem?_eq_some_iff.1 ha).1
  obtain ⟨c, hc⟩ : ∃ c, cs[done]? = some c := ⟨_, List.getElem?_eq_getElem (by omega)⟩
  have ht := (List.getElem?_eq_some_iff.1 hz).1
  by_cases q1 : at_ < c
  · rcases h1 with rfl | ⟨c', e1, e2⟩
    · exact .inl (h.op at_ z c a hz hc ha (by omega) k0 k1)
    · rw [hc] at e1
      injection e1 with e1
      omega
  · by_cases q2 : at_ = c
    · exact .inl (h.here done z c a hc ha (q2 ▸ hz) k0 k1)
    · rcases h2 with e | ⟨d, e1, e2⟩
      · have := h.last
        rw [show cs.length - 1 = done by omega, hc] at this
        injection this with this
        omega
      · have hl := (List.getElem?_eq_some_iff.1 e1).1
        obtain ⟨b, hb⟩ : ∃ b, bks[done + 1]? = some b := ⟨_, List.getElem?_eq_getElem (by omega)⟩
        rcases h.btw done at_ z c d a b hc e1 ha hb (by omega) e2 hz k0 k1 with q | q
        · exact .inl q
        · exact .inr ⟨c, b, hc, by omega, hl, hb, q⟩
theorem Dsk.bnd {N : Nat} {b : Bk} {y : Sp} (h : Dsk N b y) : Gl b.base ∧ (∀ x ∈ b.batches, Gl x) ∧ b.batches.length ≤ 1000000 ∧ b.last ≤ 1000000 := by
  rcases h with ⟨-, rfl⟩ | ⟨live, gen, first, base, bs, h, rfl, -, -⟩
  · exact ⟨gl_nil, fun x hx => (by cases hx), Nat.zero_le _, Nat.zero_le _⟩
  · have := h.f2
    have := h.f1
    exact ⟨h.gb, h.gs, by show bs.length ≤ _; omega, by show first - 1 + bs.length ≤ _; omega⟩
theorem byt_take {l : List Nat} (h : Byt l) (n : Nat) : Byt (l.take n) := fun y hy => h y (List.mem_of_mem_take hy)
theorem byt_basew {gen first : Nat} {ls : List (List Nat)} (h : Gl ls) : Byt (basew gen first ls) := by
  have := byt_journalw (gen := gen) (first := first) (bs := []) h (fun _ h => by cases h)
  rwa [journalw_nil] at this
theorem byt_batchw {n : Nat} {b : List (List Nat)} (h : Gl b) : Byt (batchw n b) := fun y hy => by
  have := byt_journalw (gen := 0) (first := n) (base := []) (bs := [b]) gl_nil (fun x hx => by rw [List.mem_singleton.1 hx]; exact h)
  refine this y ?_
  have e := journalw_snoc 0 n [] [] b
  rw [List.nil_append, List.length_nil, Nat.add_zero] at e
  rw [e]
  exact List.mem_append_right _ hy
theorem oth_byt {gen : Nat} {c : List Nat} (h : Oth gen c) : Byt c := by
  cases h with
  | nil => exact fun y hy => by cases hy
  | torn first ls m _ _ hl _ => exact byt_take (byt_basew hl) _
  | old g first base bs _ _ _ _ hb hbs => exact byt_journalw hb hbs
theorem Dsk.byt {N : Nat} {b : Bk} {y : Sp} (h : Dsk N b y) : Byt y.1.1 ∧ Byt y.2.1 := by
  rcases h with ⟨⟨e1, m, -, e0⟩, -⟩ | ⟨live, gen, first, base, bs, h, -, -, -⟩
  · rw [e0, e1]
    exact ⟨byt_take (byt_basew gl_nil) _, fun y hy => by cases hy⟩
  · obtain ⟨b', m, hb, -, e⟩ := h.tail
    have hlv := h.lv
    have k1 : Byt (fl y live).1 := by
      rw [e]
      intro x hx
      rcases List.mem_append.1 hx with q | q
      · exact byt_journalw h.gb h.gs x q
      · exact byt_take (byt_batchw hb) _ x q
    have k2 := oth_byt h.oth
    obtain rfl | rfl : live = 0 ∨ live = 1 := by omega
    · exact ⟨k1, k2⟩
    · exact ⟨k2, k1⟩
/-- A life's books as they lie. -/
def Bks (B : Nat) (w : World) (rs : List Value) (bks : List Bk) : Prop := rs.length = bks.length * 3 ∧ ∀ (i : Nat) (b : Bk), bks[i]? = some b → ∃ u0 u1, rs[i * 3]? = some u0 ∧ rs[i * 3 + 1]? = some u1 ∧ rs[i * 3 + 2]? = some (.int .i64 (b.last : Int)) ∧ Ll B w u0 b.base ∧ Lb B w u1 b.batches
theorem Bks.keep {B : Nat} {w w' : World} {rs : List Value} {bks : List Bk} (h : Bks B w rs bks) (hk : Stay B (fun t => t = 5 ∨ t = 23 ∨ t = 27) w w') : Bks B w' rs bks :=
  ⟨h.1, fun i b hb => let ⟨u0, u1, e0, e1, e2, h4, h5⟩ := h.2 i b hb; ⟨u0, u1, e0, e1, e2, h4.keep (fun k c t h1 h2 h3 => hk k c t h1 (h2.elim .inl (fun q => .inr (.inl q))) h3), h5.keep hk⟩⟩
theorem Bks.add {B : Nat} {w : World} {rs : List Value} {bks : List Bk} {b : Bk} {u0 u1 : Value} (h : Bks B w rs bks) (h4 : Ll B w u0 b.base) (h5 : Lb B w u1 b.batches) : Bks B w (rs ++ [u0, u1, .int .i64 (b.last : Int)]) (bks ++ [b]) := by
  have hl := h.1
  refine ⟨by simp; omega, fun i b' hb => ?_⟩
  rcases snoc_get hb with ⟨i1, hb⟩ | ⟨rfl, rfl⟩
  · obtain ⟨v0, v1, e0, e1, e2, k4, k5⟩ := h.2 i b' hb
    exact ⟨v0, v1, by rw [List.getElem?_append_left (by omega)]; exact e0, by rw [List.getElem?_append_left (by omega)]; exact e1, by rw [List.getElem?_append_left (by omega)]; exact e2, k4, k5⟩
  · refine ⟨u0, u1, ?_, ?_, ?_, h4, h5⟩
    · rw [List.getElem?_append_right (by omega), show bks.length * 3 - rs.length = 0 by omega]; rfl
    · rw [List.getElem?_append_right (by omega), show bks.length * 3 + 1 - rs.length = 1 by omega]; rfl
    · rw [List.getElem?_append_right (by omega), show bks.length * 3 + 2 - rs.length = 2 by omega]; rfl
end Cr
end Dev
end Go.Proofs.YtfimaflglnemdaaDoor

/- JournalCrash: a step of a life, with its moments. -/
namespace Go.Proofs.YtfimaflglnemdaaDoor
open Go.RowKit
open JM
set_option maxRecDepth 20000
namespace Dev
def lifG (l : Int) (us : Value) (a k0 k1 : Int) : Array Value := #[.int .i64 l, us, .int .i64 a, .int .i64 k0, .int .i64 k1]
theorem S11.ofG {W : World} {lo mc mb : Nat} {cv bv : Value} {xs rs : List Value} {R0 R1 R2 us : Value} {wr : World} {g q : Nat} {c : Bool} {x : Value} {l a k0 k1 : Int} (h : Lw W lo mc mb cv bv xs rs #[R0, R1, R2] (lifG l us a k0 k1) wr) (h1 : W.cell? ⟨g, q, none⟩ = some (.bool c)) (h2 : W.cell? ⟨g, q + 1, none⟩ = some x) : S11 W R0 R1 R2 us g q c x wr :=
  ⟨(cell_of_row _ _ _ _ _ _ h.rb).trans rfl, (cell_of_row _ _ _ _ _ _ h.rb).trans rfl, (cell_of_row _ _ _ _ _ _ h.rb).trans rfl, (cell_of_row _ _ _ _ _ _ h.rl).trans rfl, cell_below h.bel h1, cell_below h.bel h2⟩
namespace Cr
section
variable [Inhabited HoleT] {lo j v lim B live gen first N : Nat} {W W' : World} {base : List (List Nat)} {bs : List (List (List Nat))} {sp : List Sp} {u0 u1 : Value}
theorem Pc.below (h : Pc lo W j v lim B live gen first N base bs sp u0 u1) (hb : Below W.heap.size W W') : Pc lo W' j v lim B live gen first N base bs sp u0 u1 :=
  ⟨h.jc.below hb, h.b0.keep (stay_below hb), h.b1.keep (stay_below hb), Nat.le_trans h.hB hb.size⟩
theorem Pc.free (h : Pc lo W j v lim B live gen first N base bs sp u0 u1) (hf : Fre W W') (ht : Tc W') (hs : Stay B (fun t => t = 5 ∨ t = 23 ∨ t = 27) W W') : Pc lo W' j v lim B live gen first N base bs sp u0 u1 :=
  ⟨h.jc.free hf ht, h.b0.keep (fun k c t h1 h2 h3 => hs k c t h1 (h2.elim .inl (fun q => .inr (.inl q))) h3), h.b1.keep hs, Nat.le_trans h.hB hf.size⟩
theorem Jc.gl (h : Jc lo W j v lim live gen first N base bs sp) : Gl base ∧ (∀ x ∈ bs, Gl x) := let ⟨_, _, _, hz⟩ := h.last; ⟨hz.gb, hz.gs⟩
theorem Jc.lst (h : Jc lo W j v lim live gen first N base bs sp) : ∃ pre z, sp = pre ++ [z] ∧ ∀ k0 k1, Dsk N ⟨base, bs, first - 1 + bs.length⟩ (crash z k0 k1) := let ⟨pre, z, e, hz⟩ := h.last; ⟨pre, z, e, fun k0 k1 => hz.dsk h.gN h.fN k0 k1⟩
theorem Jc.count (h : Jc lo W j v lim live gen first N base bs sp) : Calls Tryd.prog 9 #[.pointer (some ⟨v, 0, none⟩)] W fun e w' => e = .returned (.int .i64 ((sp.length - 1 : Nat) : Int)) ∧ w' = W := by
  obtain ⟨pre, z, e, -, h1, -⟩ := h.jn
  have := h1.count
  rwa [show sp.length - 1 = pre.length by rw [e]; simp]
theorem Jc.story (h : Jc lo W j v lim live gen first N base bs sp) : Calls Tryd.prog 20 #[.pointer (some ⟨j, 0, none⟩)] W fun e w' => ∃ t4 t5, e = .returned (.agg (styA live (journalw gen first base bs).length gen first t4 t5)) ∧ Ll W.heap.size w' t4 base ∧ Lb W.heap.size w' t5 bs ∧ Below W.heap.size W w' := by
  obtain ⟨pre, z, e, hz, h1, -⟩ := h.jn
  have hl := h.len
  have hg := hz.g2
  have hf := hz.f2
  have hL := hz.lim hl
  have hlv : Lv live gen first base bs z := Lv.whole hz.lv hz.g1 (by omega) hz.f1 (by omega) hz.gb hz.gs (by rw [hz.fl1]) (by rw [hz.fl2]; exact .nil)
  obtain ⟨pend, hr⟩ := hlv.rep (Nat.le_trans hL.1 (by omega)) (Nat.le_trans hL.2 (by omega))
  obtain ⟨b0, b1⟩ := Dsk.byt (N := 999000) (.inr ⟨live, gen, first, base, bs, hlv, rfl, hz.g2, hz.f2⟩)
  exact Story_any h1 h.tc b0 b1 (Nat.le_trans hL.1 (by omega)) (Nat.le_trans hL.2 (by omega)) hr
end
end Cr
/-- A step of a life. -/
theorem does_stepH [Inhabited HoleT] {W wr X : World} {lo j v lim B N mc mb live gen first : Nat} {cv bv : Value} {xs rs : List Value} {base : List (List Nat)} {bs : List (List (List Nat))} {sp : List Sp} {u0 u1 us uL : Value} {ls : List (List Nat)} {c : Bool} {g q : Nat} {last : Nat} {l a k0 k1 : Int} (hP : Cr.Pc lo wr j v lim B live gen first N base bs sp u0 u1) (hW : Lw W lo mc mb cv bv xs rs #[u0, u1, .int .i64 (last : Int)] (lifG l us a k0 k1) wr) (hl : last = first - 1 + bs.length) (hX : Below wr.heap.size wr X) (hN : N + 1 ≤ 900000) (hc : sp.length + 3 ≤ 900000) (h1 : W.cell? ⟨g, q, none⟩ = some (.bool c)) (h2 : W.cell? ⟨g, q + 1, none⟩ = some uL) (hL : Lr W uL ls) (hLl : ∀ x ∈ ls, x.length ≤ Go.Proofs.YtfimaflglnemdaaDoor.LIM) :
    Calls Tryd.prog 37 #[.pointer (some ⟨j, 0, none⟩), .agg #[u0, u1, .int .i64 (last : Int)], .agg #[.bool c, uL], .int .i64 (lim : Int)] X fun e w' => ∃ (live' gen' first' : Nat) (base' : List (List Nat)) (bs' : List (List (List Nat))) (L : List Sp) (u0' u1' : Value) (last' : Nat), e = .returned (.tuple #[.agg #[u0', u1', .int .i64 (last' : Int)], .bool true]) ∧ Hid (last' = first' - 1 + bs'.length ∧ Cr.Pc lo w' j v lim B live' gen' first' (N + 1) base' bs' (sp ++ L) u0' u1' ∧ Lw W lo mc mb cv bv xs rs #[u0, u1, .int .i64 (last : Int)] (lifG l us a k0 k1) w' ∧ Fo lo X w' ∧ Cr.Few L ∧ (∀ z ∈ L, ∀ k0 k1, Cr.Dsk (N + 1) ⟨base, bs, last⟩ (Cr.crash z k0 k1) ∨ Cr.Dsk (N + 1) ⟨base', bs', last'⟩ (Cr.crash z k0 k1))) ∧ S11 W u0 u1 (.int .i64 (last : Int)) us g q c uL w' := by
  have hWX := hW.below hX
  subst hl
  refine (does_anyH (hP.below hX) (hL.below hWX.bel) hLl hN hc c).mono ?_
  rintro e w' ⟨live', gen', first', base', bs', L, u0', u1', e1, e2, e3, e4, e5⟩
  exact ⟨live', gen', first', base', bs', L, u0', u1', _, e1, ⟨rfl, e2, hWX.fo e3, e3, e4, e5⟩, S11.ofG (hWX.fo e3) h1 h2⟩
/-- What a step has left: the book's new state in block k. -/
structure NxtH [Inhabited HoleT] (W : World) (lo j v lim B N mc mb : Nat) (cv bv : Value) (xs rs : List Value) (R L : Array Value) (live gen first : Nat) (base : List (List Nat)) (bs : List (List (List Nat))) (sp : List Sp) (u0 u1 : Value) (last k : Nat) (Y : World) : Prop where
  hl : last = first - 1 + bs.length
  pc : Cr.Pc lo Y j v lim B live gen first N base bs sp u0 u1
  lw : Lw W lo mc mb cv bv xs rs R L Y
  row : Y.heap[k]? = some (.cells #[u0, u1, .int .i64 (last : Int)] 30 (0, 0))
theorem nxtHA [Inhabited HoleT] {W wr X w' : World} {lo j v lim B N mc mb live gen first : Nat} {cv bv : Value} {xs rs : List Value} {R L : Array Value} {base : List (List Nat)} {bs : List (List (List Nat))} {sp : List Sp} {u0 u1 : Value} {last k : Nat} (hT : Tc W) (h0 : Lw W lo mc mb cv bv xs rs R L wr) (hk : X.heap[k]? = some (.cells zBk 30 (0, 0))) (hz : wr.heap.size ≤ k) (h1 : last = first - 1 + bs.length) (h2 : Cr.Pc lo w' j v lim B live gen first N base bs sp u0 u1) (h3 : Lw W lo mc mb cv bv xs rs R L w') (h4 : Fo lo X w') :
    (stBk (.pointer (some ⟨k, 0, none⟩)) (.agg #[u0, u1, .int .i64 (last : Int)])).run Tryd.prog w' = .ok () (w'.setRow k #[u0, u1, .int .i64 (last : Int)]) ∧ NxtH W lo j v lim B N mc mb cv bv xs rs R L live gen first base bs sp u0 u1 last k (w'.setRow k #[u0, u1, .int .i64 (last : Int)]) := by
  have hr := h4.row hk (by decide) (by decide) (by decide)
  obtain ⟨_, _, e0⟩ := h2.b0.sl
  obtain ⟨_, _, e1⟩ := h2.b1.sl
  have hL := h0.setK h3 hz #[u0, u1, .int .i64 (last : Int)]
  refine ⟨st_Bk w' k zBk _ rfl rfl (by rw [e0, e1]; simp [Value.oneCell']) hr, ⟨h1, h2.free (Fre.setRow hr (by decide) (by intro m hm; simp [zBk] at hm) _) (hT.below hL.bel hT.sz) (fun i c t _ ht hc => setRow_other _ _ _ _ (row_ne hc hr ?_)), hL, setRow_heap _ _ _ _ _ _ hr⟩⟩
  rcases ht with rfl | rfl | rfl <;> decide
theorem nxtHB [Inhabited HoleT] {W w' : World} {lo j v lim B N mc mb live gen first : Nat} {cv bv : Value} {xs rs : List Value} {R L : Array Value} {base : List (List Nat)} {bs : List (List (List Nat))} {sp : List Sp} {u0 u1 : Value} {last : Nat} (h1 : last = first - 1 + bs.length) (h2 : Cr.Pc lo w' j v lim B live gen first N base bs sp u0 u1) (h3 : Lw W lo mc mb cv bv xs rs R L w') :
    (stBk (.pointer (some ⟨w'.heap.size, 0, none⟩)) (.agg #[u0, u1, .int .i64 (last : Int)])).run Tryd.prog (w'.alloc (.cells #[.slice none 0 0, .slice none 0 0, .int .i64 0] 30)) = .ok () (w'.alloc (.cells #[u0, u1, .int .i64 (last : Int)] 30)) ∧ NxtH W lo j v lim B N mc mb cv bv xs rs R L live gen first base bs sp u0 u1 last w'.heap.size (w'.alloc (.cells #[u0, u1, .int .i64 (last : Int)] 30)) ∧ Lw W lo mc mb cv bv xs rs R L (w'.alloc (.cells #[.slice none 0 0, .slice none 0 0, .int .i64 0] 30)) := by
  obtain ⟨_, _, e0⟩ := h2.b0.sl
  obtain ⟨_, _, e1⟩ := h2.b1.sl
  have ba : ∀ o, Below w'.heap.size w' (w'.alloc o) := fun o => (Below.refl _ w').alloc (Nat.le_refl _) _
  refine ⟨(st_Bk _ _ zBk _ rfl rfl (by rw [e0, e1]; simp [Value.oneCell']) (heap_alloc_new _ _)).trans (by rw [World.setRow_alloc_new]), ⟨h1, h2.below (ba _), h3.below (ba _), heap_alloc_new _ _⟩, h3.below (ba _)⟩
/-- A life, behind i steps. -/
def LvH (W : World) (lo j v lim B N i : Nat) (cv bv : Value) (L : Array Value) (wr : World) : Prop :=
  ∃ (live gen first : Nat) (base : List (List Nat)) (bs : List (List (List Nat))) (sp : List Sp) (u0 u1 : Value) (rs : List Value) (cs : List Nat) (bks : List Cr.Bk), @Cr.Pc (hJ j) lo wr j v lim B live gen first (N + i) base bs sp u0 u1 ∧ Lw W lo (i + 1) (i + 1) cv bv (cs.map fun c : Nat => Value.int .i64 (c : Int)) rs (bkA u0 u1 (first - 1 + bs.length)) L wr ∧ Cr.Bks B wr rs bks ∧ Cr.Hst (N + i) sp cs bks ∧ cs.length = i + 1 ∧ bks[i]? = some ⟨base, bs, first - 1 + bs.length⟩ ∧ sp.length ≤ 10 + 3 * i
end Dev
end Go.Proofs.YtfimaflglnemdaaDoor
