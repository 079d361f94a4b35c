/- SieveCuts: a scanner and a rewriter beside one another. -/
import Derived.Test.YtceaklefdahfkaaCt2
namespace Go.Proofs.Ytceaklefdahfkaa
open Go.RowKit
theorem hc_add (a b : List (Int × Int)) : hc (a ++ b) = hc a ++ hc b := by simp [hc]
/-- Hits appended to hits. -/
theorem run_apHg (w : World) (base n ty : Nat) (v : Value) (l e : List (Int × Int)) (sv : Value) (ho : w.ownsRow base 40 2 v n (hc l)) (hs : Hl sv e w) (hb : (n + e.length) * 16 ≤ 140737488355328) (hB : base ≤ w.heap.size) :
    ∃ v' w', (appH ty #[v, sv]).run Try.prog w = .ok v' w' ∧ w'.ownsRow base 40 2 v' (n + e.length) (hc (l ++ e)) ∧ w.grownBy w' v.ownBlock := by
  obtain ⟨i0, hi0, hz0, hz1, hz2⟩ := info_parts info40
  rcases hs with ⟨rfl, rfl⟩ | ⟨b, off, cap, rfl, h1, h2, h3, h4⟩
  · exact ⟨v, w, run_append_owned_none (P := Try.prog) (w := w) base 22 ty 40 i0 2 Try.underlying22 hi0 _ n _ ho, by rw [List.append_nil]; exact ho, ⟨rfl, rfl, rfl, Nat.le_refl _, fun _ _ _ => rfl⟩⟩
  · obtain ⟨v', w', hr, ho2, hg, _⟩ := run_append_own (P := Try.prog) w base 22 ty 40 i0 _ 2 16 Try.underlying22 hi0 hz0 hz1 hz2 rfl (by omega) v n _ ho ⟨b, off, none⟩ e.length cap (hc e) (hc_len e)
      (hc_cell h4) (hc_one e) (by unfold maxLen; omega) (by omega) hB
    rw [← hc_add] at ho2
    exact ⟨v', w', hr, ho2, hg⟩
/-- Bytes appended to bytes. -/
theorem run_apPg (w : World) (base n ty : Nat) (v : Value) (l e : List Nat) (sv : Value) (ho : w.ownsRow base 5 1 v n (ik .u8 l).toList) (hs : Si .u8 sv e w) (hb : n + e.length ≤ 1099511627776) (hB : base ≤ w.heap.size) :
    ∃ v' w', (apP ty #[v, sv]).run Try.prog w = .ok v' w' ∧ w'.ownsRow base 5 1 v' (n + e.length) (ik .u8 (l ++ e)).toList ∧ w.grownBy w' v.ownBlock := by
  obtain ⟨i0, hi0, hz0, hz1, hz2⟩ := info_parts info5
  rcases hs with ⟨rfl, rfl⟩ | ⟨b, off, c, rfl, h2, h3, h4, h5⟩
  · refine ⟨v, w, run_append_owned_none (P := Try.prog) w base 27 ty 5 i0 1 Try.underlying27 hi0 _ n _ ho, ?_, ⟨rfl, rfl, rfl, Nat.le_refl _, fun _ _ _ => rfl⟩⟩
    rw [List.append_nil]; exact ho
  · obtain ⟨v', w', hr, ho2, hg, _⟩ := run_append_own (P := Try.prog) w base 27 ty 5 i0 _ 1 1 Try.underlying27 hi0 hz0 hz1 hz2 rfl (by omega) v n _ ho ⟨b, off, none⟩ e.length c (ik .u8 e).toList (by simp [ik]) (fun j u hu => by
        have hj : j < e.length := by have := (List.getElem?_eq_some_iff.1 hu).1; simpa [ik] using this
        rw [Array.getElem?_toList, ik_get _ _ j hj] at hu
        rw [← Option.some.inj hu, Go.WideShapes.add_plain]
        exact h5 j hj) (fun u hu => by
        have := ik_one .u8 e
        rw [Array.all_eq_true] at this
        obtain ⟨j, hj, rfl⟩ := List.getElem_of_mem hu
        simp only [Array.length_toList] at hj
        exact this j hj) (by unfold maxLen; omega) (by omega) hB
    have e : (ik .u8 l).toList ++ (ik .u8 e).toList = (ik .u8 (l ++ e)).toList := by simp [ik]
    rw [e] at ho2
    exact ⟨v', w', hr, ho2, hg⟩
theorem own_apart {w : World} {B B' n n' : Nat} {v u : Value} {xs ys : List Value} (h : w.ownsRow B 40 2 v n xs) (k : w.ownsRow B' 5 1 u n' ys) : ∀ j, v.ownBlock = some j → u.ownBlock ≠ some j := fun j hj hk => by
  obtain ⟨_, ⟨rfl, _⟩ | ⟨g, cap, cur, rfl, _, h3, _⟩⟩ := h
  · cases hj
  · obtain ⟨_, ⟨rfl, _⟩ | ⟨g', cap', cur', rfl, _, k3, _⟩⟩ := k
    · cases hk
    · simp only [Value.ownBlock, Option.some.injEq] at hj hk
      subst hj
      rw [hk] at k3
      rw [h3] at k3
      simp at k3
/-- All but two blocks are as they were. -/
structure Two (gs gr : Nat) (wa w : World) : Prop where
  os : w.os = wa.os
  tape : w.tape = wa.tape
  output : w.output = wa.output
  size : wa.heap.size ≤ w.heap.size
  block : ∀ j, j < wa.heap.size → j ≠ gs → j ≠ gr → w.heap[j]? = wa.heap[j]?
/-- What is fixed while pieces are fed. -/
structure Ctx (l : List ByteArray) (m : Nat) (ns : List Nat) (T : List ByteArray) (gs gr gt K0 : Nat) (tv : Value) (wa : World) : Prop where
  hp : Pt l m
  hn : NewOk l ns
  hT : ∀ s ∈ T, s.size = m
  hTl : T.length = l.length
  gs0 : gs < wa.heap.size
  gr0 : gr < wa.heap.size
  ne : gs ≠ gr
  ks : K0 ≤ gs
  kr : K0 ≤ gr
  tab : TabK K0 gt (ftT ((wdS l ns).map tl) ns m) wa
  stv : St tv T wa
  tvb : ∀ k, tv.ownBlock = some k → k ≠ gs ∧ k ≠ gr
/-- The scanner has taken yc, the rewriter yr; hits and bytes so far. -/
structure CtS (l : List ByteArray) (m : Nat) (ns : List Nat) (T : List ByteArray) (gs gr gt : Nat) (tv : Value) (wa : World) (yc yr : List Nat) (hv : Value) (H : List (Int × Int)) (ov : Value) (O : List Nat) (w : World) : Prop where
  sc : ∃ s, Scg [] 81 gs gt s yc.length (hld2 (l.map tl) m yc) w ∧ At ((wdS l ns).map tl) m s yc
  rw : RwI l m ns T gr gt tv yr w
  hh : w.ownsRow wa.heap.size 40 2 hv H.length (hc H)
  oo : w.ownsRow wa.heap.size 5 1 ov O.length (ik .u8 O).toList
  two : Two gs gr wa w
section
variable {l : List ByteArray} {m : Nat} {ns : List Nat} {T : List ByteArray} {gs gr gt K0 : Nat} {tv : Value} {wa : World}
theorem Two.but_s {w w' : World} (h : Two gs gr wa w) (b : But gs w w') : Two gs gr wa w' := ⟨b.os.trans h.os, b.tape.trans h.tape, b.output.trans h.output, Nat.le_trans h.size b.size, fun j hj h1 h2 => (b.block j (Nat.lt_of_lt_of_le hj h.size) h1).trans (h.block j hj h1 h2)⟩
theorem Two.but_r {w w' : World} (h : Two gs gr wa w) (b : But gr w w') : Two gs gr wa w' := ⟨b.os.trans h.os, b.tape.trans h.tape, b.output.trans h.output, Nat.le_trans h.size b.size, fun j hj h1 h2 => (b.block j (Nat.lt_of_lt_of_le hj h.size) h2).trans (h.block j hj h1 h2)⟩
theorem Two.grown {w w' : World} {r : Option Nat} (h : Two gs gr wa w) (b : w.grownBy w' r) (hr : ∀ k, r = some k → wa.heap.size ≤ k) : Two gs gr wa w' := ⟨b.os.trans h.os, b.tape.trans h.tape, b.output.trans h.output, Nat.le_trans h.size b.size, fun j hj h1 h2 => (b.block j (Nat.lt_of_lt_of_le hj h.size) (fun e => by have := hr j e.symm; omega)).trans (h.block j hj h1 h2)⟩
theorem Two.below {w w' : World} (h : Two gs gr wa w) (b : Below wa.heap.size w w') : Two gs gr wa w' := ⟨b.os.trans h.os, b.tape.trans h.tape, b.output.trans h.output, Nat.le_trans h.size b.size, fun j hj h1 h2 => (b.block j hj).trans (h.block j hj h1 h2)⟩
theorem Two.si {w : World} (h : Two gs gr wa w) {k : IntKind} {v : Value} {x : List Nat} (hv : Si k v x wa) (hb : ∀ k, v.ownBlock = some k → k ≠ gs ∧ k ≠ gr) : Si k v x w := hv.keep h.size fun j hj hz => h.block j hz (hb j hj).1 (hb j hj).2
theorem Two.st {w : World} (h : Two gs gr wa w) {v : Value} {x : List ByteArray} (hv : St v x wa) (hb : ∀ k, v.ownBlock = some k → k ≠ gs ∧ k ≠ gr) : St v x w := by
  rcases hv with ⟨rfl, rfl⟩ | ⟨b, off, c, rfl, h2, h3, h4, h5⟩
  · exact .inl ⟨rfl, rfl⟩
  · exact .inr ⟨b, off, c, rfl, h2, h3, Nat.lt_of_lt_of_le h4 h.size, fun j s hj => (World.cell?_of_block (w := wa) (h.block b h4 (hb b rfl).1 (hb b rfl).2)).trans (h5 j s hj)⟩
theorem Ctx.tabAt (C : Ctx l m ns T gs gr gt K0 tv wa) {w : World} (h : Two gs gr wa w) : TabK K0 gt (ftT ((wdS l ns).map tl) ns m) w := C.tab.keep h.size fun j hj hz => h.block j hz (by have := C.ks; omega) (by have := C.kr; omega)
/-- The scanner takes a piece. -/
theorem ct_feedC (C : Ctx l m ns T gs gr gt K0 tv wa) {y p : List Nat} {hv ov : Value} {H : List (Int × Int)} {O : List Nat} {w : World} (h : CtS l m ns T gs gr gt tv wa y y hv H ov O w) (hy : y.length ≤ 1125899906842624) (hpb : Byt p) (hpl : p.length ≤ 1073741824) (pv : Value) (hpv : Si .u8 pv p wa) (hpg : ∀ k, pv.ownBlock = some k → k ≠ gs ∧ k ≠ gr) :
    Calls Try.prog 30 #[.pointer (some ⟨gs, 0, none⟩), pv] w fun e w' => ∃ v, e = .returned v ∧ w'.ownsRow w.heap.size 40 2 v (hit2 (l.map tl) m y p).length (hc (hit2 (l.map tl) m y p)) ∧ CtS l m ns T gs gr gt tv wa (y ++ p) y hv H ov O w' := by
  obtain ⟨s, hs, hat⟩ := h.sc
  have hsz := h.two.size
  have hg0 := C.gs0
  refine (feedC_gen [] 81 l m C.hp ns C.hn gs gt s _ y p hy hpb hpl pv w hs hat ((C.tabAt h.two).mono C.ks) (h.two.si hpv hpg)).mono ?_
  rintro e w' ⟨v, s', he, ho, hs', hat', hb⟩
  refine ⟨v, he, ho, ⟨s', hs', hat'⟩, ?_, ?_, ?_, h.two.but_s hb⟩
  · obtain ⟨s1, K, h1, h2, h3, h4⟩ := h.rw
    exact ⟨s1, K, h1, (hb.block gr (by have := C.gr0; omega) C.ne.symm).trans h2, h3, h4⟩
  · exact own_keep2 h.hh fun k hk => hb.block k (h.hh.lt k hk).2 (by have := (h.hh.lt k hk).1; omega)
  · exact own_keep2 h.oo fun k hk => hb.block k (h.oo.lt k hk).2 (by have := (h.oo.lt k hk).1; omega)
/-- Its hits are appended. -/
theorem ct_apH (C : Ctx l m ns T gs gr gt K0 tv wa) {yc yr : List Nat} {hv ov sv : Value} {H E : List (Int × Int)} {O : List Nat} {w : World} (h : CtS l m ns T gs gr gt tv wa yc yr hv H ov O w) (hs : Hl sv E w) (hb : (H.length + E.length) * 16 ≤ 140737488355328) (ty : Nat) :
    ∃ v' w', (appH ty #[hv, sv]).run Try.prog w = .ok v' w' ∧ CtS l m ns T gs gr gt tv wa yc yr v' (H ++ E) ov O w' := by
  obtain ⟨v', w', hr, ho, hg⟩ := run_apHg w wa.heap.size H.length ty hv H E sv h.hh hs hb h.two.size
  have hsz := h.two.size
  have hg0 := C.gs0
  have hr0 := C.gr0
  have hne : ∀ k, k < wa.heap.size → some k ≠ hv.ownBlock := fun k hk e => by have := (h.hh.lt k e.symm).1; omega
  refine ⟨v', w', hr, ?_, ?_, by rw [List.length_append]; exact ho, ?_, h.two.grown hg fun k hk => (h.hh.lt k hk).1⟩
  · obtain ⟨s, h1, h2⟩ := h.sc
    exact ⟨s, (hg.block gs (by omega) (hne gs hg0)).trans h1, h2⟩
  · obtain ⟨s1, K, h1, h2, h3, h4⟩ := h.rw
    exact ⟨s1, K, h1, (hg.block gr (by omega) (hne gr hr0)).trans h2, h3, h4⟩
  · exact own_keep2 h.oo fun k hk => hg.block k (h.oo.lt k hk).2 (fun e => own_apart h.hh h.oo k e.symm hk)
/-- Bytes are appended. -/
theorem ct_apP (C : Ctx l m ns T gs gr gt K0 tv wa) {yc yr : List Nat} {hv ov sv : Value} {H : List (Int × Int)} {O X : List Nat} {w : World} (h : CtS l m ns T gs gr gt tv wa yc yr hv H ov O w) (hs : Si .u8 sv X w) (hb : O.length + X.length ≤ 1099511627776) (ty : Nat) :
    ∃ v' w', (apP ty #[ov, sv]).run Try.prog w = .ok v' w' ∧ CtS l m ns T gs gr gt tv wa yc yr hv H v' (O ++ X) w' := by
  obtain ⟨v', w', hr, ho, hg⟩ := run_apPg w wa.heap.size O.length ty ov O X sv h.oo hs hb h.two.size
  have hsz := h.two.size
  have hg0 := C.gs0
  have hr0 := C.gr0
  have hne : ∀ k, k < wa.heap.size → some k ≠ ov.ownBlock := fun k hk e => by have := (h.oo.lt k e.symm).1; omega
  refine ⟨v', w', hr, ?_, ?_, ?_, by rw [List.length_append]; exact ho, h.two.grown hg fun k hk => (h.oo.lt k hk).1⟩
  · obtain ⟨s, h1, h2⟩ := h.sc
    exact ⟨s, (hg.block gs (by omega) (hne gs hg0)).trans h1, h2⟩
  · obtain ⟨s1, K, h1, h2, h3, h4⟩ := h.rw
    exact ⟨s1, K, h1, (hg.block gr (by omega) (hne gr hr0)).trans h2, h3, h4⟩
  · exact own_keep2 h.hh fun k hk => hg.block k (h.hh.lt k hk).2 (fun e => own_apart h.hh h.oo k hk e.symm)
/-- The rewriter takes a piece. -/
theorem ct_feedR (C : Ctx l m ns T gs gr gt K0 tv wa) {yc y p : List Nat} {hv ov : Value} {H : List (Int × Int)} {O : List Nat} {w : World} (h : CtS l m ns T gs gr gt tv wa yc y hv H ov O w) (hy : y.length ≤ 1125899906842624) (hpb : Byt p) (hpl : p.length ≤ 1073741824) (hov : (ovP 0 m (hts (l.map tl) m y)).2 = false) (pv : Value) (hpv : Si .u8 pv p wa) (hpg : ∀ k, pv.ownBlock = some k → k ≠ gs ∧ k ≠ gr) :
    Calls Try.prog 26 #[.pointer (some ⟨gr, 0, none⟩), pv] w fun e w' =>
      ((ovP 0 m (hts (l.map tl) m (y ++ p))).2 = true ∧ e = .returned (.tuple #[.slice none 0 0, .int .i64 52, .int .i64 (ovP 0 m (hts (l.map tl) m (y ++ p))).1]) ∧ (∃ n h, Rwd gr n h w') ∧ Two gs gr wa w') ∨
      ((ovP 0 m (hts (l.map tl) m (y ++ p))).2 = false ∧ ∃ o k X, e = .returned (.tuple #[.slice o k k, .int .i64 0, .int .i64 0]) ∧ Si .u8 (.slice o k k) X w' ∧
        (rwd (l.map tl) m T y).take (y.length - hld2 (l.map tl) m y) ++ X = (rwd (l.map tl) m T (y ++ p)).take ((y ++ p).length - hld2 (l.map tl) m (y ++ p)) ∧ CtS l m ns T gs gr gt tv wa yc (y ++ p) hv H ov O w') := by
  have hsz := h.two.size
  have hg0 := C.gs0
  have hr0 := C.gr0
  refine (rfeed_y l m C.hp ns C.hn T C.hT C.hTl gr gt tv y p hy hpb hpl hov pv w h.rw ((C.tabAt h.two).mono C.kr) (h.two.si hpv hpg) (fun e => (hpg gr e).2 rfl) (h.two.st C.stv C.tvb) (fun e => (C.tvb gr e).2 rfl)).mono ?_
  rintro e w' ⟨hb, ⟨a1, a2, a3⟩ | ⟨a1, o, k, X, a2, a3, a4, a5, a6⟩⟩
  · exact .inl ⟨a1, a2, a3, h.two.but_r hb⟩
  · refine .inr ⟨a1, o, k, X, a2, a3, a5, ?_, a6, ?_, ?_, h.two.but_r hb⟩
    · obtain ⟨s, h1, h2⟩ := h.sc
      exact ⟨s, (hb.block gs (by omega) C.ne).trans h1, h2⟩
    · exact own_keep2 h.hh fun k hk => hb.block k (h.hh.lt k hk).2 (by have := (h.hh.lt k hk).1; omega)
    · exact own_keep2 h.oo fun k hk => hb.block k (h.oo.lt k hk).2 (by have := (h.oo.lt k hk).1; omega)
/-- At and Held, of both. -/
theorem ct_cells {yc yr : List Nat} {hv ov : Value} {H : List (Int × Int)} {O : List Nat} {w : World} (h : CtS l m ns T gs gr gt tv wa yc yr hv H ov O w) :
    w.cell? ⟨gs, 2, none⟩ = some (.int .i64 (yc.length : Int)) ∧ w.cell? ⟨gs, 3, none⟩ = some (.int .i64 (hld2 (l.map tl) m yc : Int)) ∧ w.cell? ⟨gr, 2, none⟩ = some (.int .i64 (yr.length : Int)) ∧ w.cell? ⟨gr, 3, none⟩ = some (.int .i64 (hld2 (l.map tl) m yr : Int)) := by
  obtain ⟨s, h1, _⟩ := h.sc
  obtain ⟨s1, K, _, h2, _⟩ := h.rw
  exact ⟨(cell_of_row w gs 2 _ _ _ h1).trans (sg2 _ _ _ _ _), (cell_of_row w gs 3 _ _ _ h1).trans (sg3 _ _ _ _ _), (cell_of_row w gr 2 _ _ _ h2).trans (sg2 _ _ _ _ _), (cell_of_row w gr 3 _ _ _ h2).trans (sg3 _ _ _ _ _)⟩
/-- The rewriter is closed. -/
theorem ct_close (C : Ctx l m ns T gs gr gt K0 tv wa) {yc y : List Nat} {hv ov : Value} {H : List (Int × Int)} {O : List Nat} {w : World} (h : CtS l m ns T gs gr gt tv wa yc y hv H ov O w) :
    Calls Try.prog 27 #[.pointer (some ⟨gr, 0, none⟩)] w fun e w' => ∃ v X, e = .returned (.tuple #[v, .int .i64 0, .int .i64 0]) ∧ Si .u8 v X w' ∧ (rwd (l.map tl) m T y).take (y.length - hld2 (l.map tl) m y) ++ X = rwd (l.map tl) m T y ∧ w'.cell? ⟨gr, 3, none⟩ = some (.int .i64 0) ∧
      w'.ownsRow wa.heap.size 40 2 hv H.length (hc H) ∧ w'.ownsRow wa.heap.size 5 1 ov O.length (ik .u8 O).toList ∧ Two gs gr wa w' := by
  obtain ⟨s, K, hK, hR, hat, hKt⟩ := h.rw
  have hsz := h.two.size
  have hg0 := C.gs0
  have hr0 := C.gr0
  have hle := hld2_le (l.map tl) m y
  have hm1 := C.hp.m1
  refine (rclose_any gr gt s y.length _ tv _ K hK (by omega) w hR).mono ?_
  rintro e w' ⟨he, h1, h2, hb⟩
  have hkl : (K.take (hld2 (l.map tl) m y)).length = hld2 (l.map tl) m y := by rw [List.length_take]; omega
  refine ⟨_, K.take (hld2 (l.map tl) m y), he, ?_, ?_, ?_, ?_, ?_, h.two.but_r hb⟩
  · refine .inr ⟨w.heap.size, 0, hld2 (l.map tl) m y, by rw [hkl], by rw [hkl]; exact Nat.le_refl _, by unfold maxLen; omega, (Array.getElem?_eq_some_iff.1 h1).1, fun j hj => ?_⟩
    rw [Nat.zero_add]
    exact (cell_of_row w' _ _ _ _ _ h1).trans (ik_get _ _ _ hj)
  · rw [hKt, List.take_append_drop]
  · exact (cell_of_row w' gr 3 _ _ _ h2).trans (sg3 _ _ _ _ _)
  · exact own_keep2 h.hh fun k hk => hb.block k (h.hh.lt k hk).2 (by have := (h.hh.lt k hk).1; omega)
  · exact own_keep2 h.oo fun k hk => hb.block k (h.oo.lt k hk).2 (by have := (h.oo.lt k hk).1; omega)
end
end Go.Proofs.Ytceaklefdahfkaa
