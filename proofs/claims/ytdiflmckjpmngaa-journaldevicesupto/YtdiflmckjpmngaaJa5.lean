/- JournalDevices: the operations of both devices, as one account. -/
import Derived.Test.YtdiflmckjpmngaaJa2
import Derived.Test.YtdiflmckjpmngaaJa3
import Derived.Test.YtdiflmckjpmngaaJvM
import Derived.Test.YtdiflmckjpmngaaJv5
import Derived.Test.YtdiflmckjpmngaaJvO
namespace Go.Proofs.Ytdiflmckjpmngaa
open Go.RowKit
def lk1 (x : Fl) : List Nat × Nat := (x.1 ++ x.2, x.1.length)
def lk (x : Fl × Fl) : Sp := (lk1 x.1, lk1 x.2)
/-- The states of the code's device where the document's has done os. -/
def spOf (B : List Nat × List Nat) (os : List Opn) : List Sp := (List.range (os.length + 1)).map fun i => lk (stt B (os.take i))
theorem spOf_len (B : List Nat × List Nat) (os : List Opn) : (spOf B os).length = os.length + 1 := by simp [spOf]
theorem spOf_at (B : List Nat × List Nat) (os : List Opn) (i : Nat) (h : i ≤ os.length) : (spOf B os)[i]? = some (lk (stt B (os.take i))) := by
  unfold spOf
  rw [List.getElem?_map, List.getElem?_range (by omega)]
  rfl
theorem spOf_last (B : List Nat × List Nat) (os : List Opn) : (spOf B os)[os.length]? = some (lk (stt B os)) := by
  rw [spOf_at B os _ (Nat.le_refl _), List.take_of_length_le (Nat.le_refl _)]
theorem spOf_app (B : List Nat × List Nat) (os : List Opn) (o : Opn) : spOf B (os ++ [o]) = spOf B os ++ [lk (stepD o (stt B os))] := by
  have hs : stt B (os ++ [o]) = stepD o (stt B os) := by unfold stt; rw [List.foldl_append]; rfl
  unfold spOf
  rw [List.length_append, List.length_singleton, List.range_succ, List.map_append]
  congr 1
  · apply List.map_congr_left
    intro i hi
    have := List.mem_range.1 hi
    rw [List.take_append_of_le_length (by omega)]
  · rw [List.map_singleton, List.take_of_length_le (by simp), hs]
theorem tot_lk (x : Fl) : (lk1 x).1.length = tot x := by simp [lk1, tot]
theorem lk_app0 (s : Fl × Fl) (l : List Nat) : (((lk s).1.1 ++ l, (lk s).1.2), (lk s).2) = lk (stepD (0, 0, l, 0) s) := by simp [lk, lk1, stepD, stepF]
theorem lk_app1 (s : Fl × Fl) (l : List Nat) : ((lk s).1, ((lk s).2.1 ++ l, (lk s).2.2)) = lk (stepD (0, 1, l, 0) s) := by simp [lk, lk1, stepD, stepF]
theorem lk_syn0 (s : Fl × Fl) : (((lk s).1.1, (lk s).1.1.length), (lk s).2) = lk (stepD (1, 0, [], 0) s) := by simp [lk, lk1, stepD, stepF]
theorem lk_syn1 (s : Fl × Fl) : ((lk s).1, ((lk s).2.1, (lk s).2.1.length)) = lk (stepD (1, 1, [], 0) s) := by simp [lk, lk1, stepD, stepF]
theorem lk_cut (x : Fl) (n : Nat) : ((lk1 x).1.take n, min (lk1 x).2 n) = lk1 (stepF 2 [] n x) := by
  unfold stepF
  rw [if_neg (by decide), if_neg (by decide)]
  by_cases h : n < x.1.length
  · rw [if_pos h]
    simp only [lk1, List.append_nil, List.length_take]
    rw [List.take_append_of_le_length (by omega), Nat.min_comm]
  · rw [if_neg h]
    simp only [lk1]
    rw [List.take_append, List.take_of_length_le (by omega), Nat.min_eq_left (by omega)]
theorem lk_cut0 (s : Fl × Fl) (n : Nat) : (((lk s).1.1.take n, min (lk s).1.2 n), (lk s).2) = lk (stepD (2, 0, [], n) s) := by
  show (((lk1 s.1).1.take n, min (lk1 s.1).2 n), lk1 s.2) = _
  rw [lk_cut _ _]
  rfl
theorem lk_cut1 (s : Fl × Fl) (n : Nat) : ((lk s).1, ((lk s).2.1.take n, min (lk s).2.2 n)) = lk (stepD (2, 1, [], n) s) := by
  show (lk1 s.1, ((lk1 s.2).1.take n, min (lk1 s.2).2 n)) = _
  rw [lk_cut _ _]
  rfl
/-- Blocks of other kinds stay. -/
structure Kp (w w' : World) : Prop where
  size : w.heap.size ≤ w'.heap.size
  block : ∀ (g : Nat) D (t : Nat), w.heap[g]? = some (.cells D t (0, 0)) → t ≠ 55 → t ≠ 52 → t ≠ 64 → t ≠ 68 → w'.heap[g]? = w.heap[g]?
theorem Kp.refl (w : World) : Kp w w := ⟨Nat.le_refl _, fun _ _ _ _ _ _ _ _ => rfl⟩
theorem Kp.trans {a b c : World} (h1 : Kp a b) (h2 : Kp b c) : Kp a c := ⟨Nat.le_trans h1.size h2.size, fun g D t h n1 n2 n3 n4 => (h2.block g D t ((h1.block g D t h n1 n2 n3 n4).trans h) n1 n2 n3 n4).trans (h1.block g D t h n1 n2 n3 n4)⟩
theorem kp_below {w w' : World} (h : Below w.heap.size w w') : Kp w w' := ⟨h.size, fun g _ _ hg _ _ _ _ => h.block g (Array.getElem?_eq_some_iff.1 hg).1⟩
theorem Pr.callC {hI : Inhabited HoleT} {W w : World} {v vr : Nat} {B : List Nat × List Nat} {sp : List Sp} {os : List Opn} (h : Pr W v vr B sp os w) {fn : Nat} {args : Array Value} (x' : Sp) (hc : ∀ lo lv f ms, Dv lo w v lv f ms sp → lo ≤ w.heap.size → Calls Try.prog fn args w (DoP lo w v lv f ms sp x')) :
    Calls Try.prog fn args w fun e w' => e = .returned (.int .i64 0) ∧ Pr W v vr B (sp ++ [x']) os w' ∧ Kp w w' := by
  obtain ⟨lo, lr, lv, f, ms, ov, xs, h1, h2, h3, h4, h5, h6, h7, h8⟩ := h.ex
  refine (hc lo lv f ms h1 h5).mono fun e w' hP => ⟨hP.1, Pr.code h.bel h1 h2 h3 h4 h5 h6 h7 h8 hP, ?_⟩
  obtain ⟨-, lv', m', hd', hf⟩ := hP
  refine ⟨hf.size, fun g D t hg n1 n2 _ _ => hf.block g (Array.getElem?_eq_some_iff.1 hg).1 (tag_ne hg h1.row n1) (fun e => ?_)⟩
  obtain ⟨_, _, cur, hcu⟩ := h1.ownrow e
  exact tag_ne hg hcu n2 rfl
theorem Pr.callD {hI : Inhabited HoleT} {W w : World} {v vr : Nat} {B : List Nat × List Nat} {sp : List Sp} {os : List Opn} (h : Pr W v vr B sp os w) {fn : Nat} {args : Array Value} (o : Opn) (hc : ∀ lr ov xs, Ro lr w vr ov B (stt B os) xs os → lr ≤ w.heap.size → Calls Try.prog fn args w (DnP lr w vr ov B (stt B os) xs os o)) :
    Calls Try.prog fn args w fun e w' => e = .returned (.int .i64 0) ∧ Pr W v vr B sp (os ++ [o]) w' ∧ Kp w w' := by
  obtain ⟨lo, lr, lv, f, ms, ov, xs, h1, h2, h3, h4, h5, h6, h7, h8⟩ := h.ex
  refine (hc lr ov xs h2 h6).mono fun e w' hP => ⟨hP.1, Pr.doc h.bel h1 h2 h3 h4 h5 h6 h7 h8 hP, ?_⟩
  obtain ⟨-, ov', a, hr', hf⟩ := hP
  obtain ⟨⟨C, hC⟩, ht⟩ := h2.tag
  refine ⟨hf.size, fun g D t hg _ _ n3 n4 => hf.block g (Array.getElem?_eq_some_iff.1 hg).1 (tag_ne hg hC n3) (fun e => ?_)⟩
  obtain ⟨_, cur, hcu⟩ := ht g e
  exact tag_ne hg hcu n4 rfl
theorem Pr.callR {hI : Inhabited HoleT} {W w : World} {v vr : Nat} {B : List Nat × List Nat} {sp : List Sp} {os : List Opn} (h : Pr W v vr B sp os w) {fn : Nat} {args : Array Value} {R : Ending → Prop} (hc : Calls Try.prog fn args w fun e w' => R e ∧ Below w.heap.size w w') :
    Calls Try.prog fn args w fun e w' => R e ∧ Pr W v vr B sp os w' ∧ Kp w w' :=
  hc.mono fun _ _ ⟨h1, h2⟩ => ⟨h1, h.below h2, kp_below h2⟩
def appE (fl : Int) (s : Fl × Fl) (n : Nat) : Int := if fl = 0 then (if 67108864 < tot s.1 + n then 1 else 0) else if fl = 1 then (if 67108864 < tot s.2 + n then 1 else 0) else 2
def synE (fl : Int) : Int := if fl = 0 ∨ fl = 1 then 0 else 2
def cutE (fl : Int) (s : Fl × Fl) (m : Int) : Int := if fl = 0 then (if m < 0 ∨ (tot s.1 : Int) < m then 2 else 0) else if fl = 1 then (if m < 0 ∨ (tot s.2 : Int) < m then 2 else 0) else 2
def nx (E : Int) (o : Opn) (os : List Opn) : List Opn := if E = 0 then os ++ [o] else os
theorem Dv.at_os {hI : Inhabited HoleT} {lo v : Nat} {w : World} {lv : Value} {f : Array Value} {ms : List (Array Value)} {B : List Nat × List Nat} {os : List Opn} (h : Dv lo w v lv f ms (spOf B os)) : ms.length = os.length ∧ (spOf B os)[ms.length]? = some (lk (stt B os)) := by
  have := h.len
  rw [spOf_len] at this
  have e : ms.length = os.length := by omega
  exact ⟨e, by rw [e]; exact spOf_last B os⟩
theorem Pr.lims {hI : Inhabited HoleT} {W w : World} {v vr : Nat} {B : List Nat × List Nat} {sp : List Sp} {os : List Opn} (h : Pr W v vr B sp os w) : tot (stt B os).1 ≤ 50000000000000 ∧ tot (stt B os).2 ≤ 50000000000000 := by
  obtain ⟨lo, lr, lv, f, ms, ov, xs, h1, h2, -⟩ := h.ex
  exact h2.rw.lims
theorem cAppend {hI : Inhabited HoleT} {W w : World} {v vr : Nat} {B : List Nat × List Nat} {os : List Opn} (h : Pr W v vr B (spOf B os) os w) (hbig : os.length < 1000) (fl : Int) (oa : Option Addr) (n cap : Nat) (l : List Nat) (hl : Bl w (.slice oa n cap) l) (hlim : l.length ≤ LIM) :
    Calls Try.prog 6 #[.pointer (some ⟨v, 0, none⟩), .int .i64 fl, .slice oa n cap] w fun e w' => e = .returned (.int .i64 (appE fl (stt B os) l.length)) ∧ Pr W v vr B (spOf B (nx (appE fl (stt B os) l.length) (0, fl.toNat, l, 0) os)) os w' ∧ Kp w w' := by
  have hlm := h.lims
  have hn : l.length = n := by
    obtain ⟨_, _, e, _⟩ := hl
    injection e with _ e2
    exact e2.symm
  have t0 : (lk (stt B os)).1.1.length = tot (stt B os).1 := tot_lk _
  have t1 : (lk (stt B os)).2.1.length = tot (stt B os).2 := tot_lk _
  unfold appE nx
  unfold LIM at hlim
  by_cases f0 : fl = 0
  · subst f0
    rw [if_pos rfl]
    by_cases hb : 67108864 < tot (stt B os).1 + l.length
    · rw [if_pos hb, if_neg (by decide)]
      obtain ⟨lo, lr, lv, f, ms, ov, xs, h1, h2, -⟩ := id h.ex
      exact h.callR (R := fun e => e = .returned (.int .i64 1)) (Append_long0 h1 _ h1.at_os.2 (by have := h1.at_os.1; omega) oa n cap (by rw [t0]; omega) (by rw [t0]; omega))
    · rw [if_neg hb, if_pos rfl, spOf_app]
      refine h.callC _ fun lo lv f ms hd hlo => ?_
      show Calls _ _ _ _ (DoP lo w v lv f ms _ (lk (stepD (0, 0, l, 0) (stt B os))))
      rw [← lk_app0]
      exact Append0 hd hlo _ hd.at_os.2 (by have := hd.at_os.1; omega) _ l hl (by rw [t0]; omega)
  · rw [if_neg f0]
    by_cases f1 : fl = 1
    · subst f1
      rw [if_pos rfl]
      by_cases hb : 67108864 < tot (stt B os).2 + l.length
      · rw [if_pos hb, if_neg (by decide)]
        obtain ⟨lo, lr, lv, f, ms, ov, xs, h1, h2, -⟩ := id h.ex
        exact h.callR (R := fun e => e = .returned (.int .i64 1)) (Append_long1 h1 _ h1.at_os.2 (by have := h1.at_os.1; omega) oa n cap (by rw [t1]; omega) (by rw [t1]; omega))
      · rw [if_neg hb, if_pos rfl, spOf_app]
        refine h.callC _ fun lo lv f ms hd hlo => ?_
        show Calls _ _ _ _ (DoP lo w v lv f ms _ (lk (stepD (0, 1, l, 0) (stt B os))))
        rw [← lk_app1]
        exact Append1 hd hlo _ hd.at_os.2 (by have := hd.at_os.1; omega) _ l hl (by rw [t1]; omega)
    · rw [if_neg f1, if_neg (by decide)]
      exact h.callR (R := fun e => e = .returned (.int .i64 2)) (Append_file w v fl f0 f1 oa n cap)
theorem dAppend {hI : Inhabited HoleT} {W w : World} {v vr : Nat} {B : List Nat × List Nat} {sp : List Sp} {os : List Opn} (h : Pr W v vr B sp os w) (hbig : os.length < 1000) (fl : Int) (oa : Option Addr) (n cap : Nat) (l : List Nat) (hl : Bl w (.slice oa n cap) l) (hlim : l.length ≤ LIM) :
    Calls Try.prog 16 #[.pointer (some ⟨vr, 0, none⟩), .int .i64 fl, .slice oa n cap] w fun e w' => e = .returned (.int .i64 (appE fl (stt B os) l.length)) ∧ Pr W v vr B sp (nx (appE fl (stt B os) l.length) (0, fl.toNat, l, 0) os) w' ∧ Kp w w' := by
  have hn : l.length = n := by
    obtain ⟨_, _, e, _⟩ := hl
    injection e with _ e2
    exact e2.symm
  have xl : ∀ {lr : Nat} {ov : Value} {xs : List (Array Value)}, Ro lr w vr ov B (stt B os) xs os → xs.length < 1000000 := fun q => by have := q.len; omega
  unfold appE nx
  by_cases f0 : fl = 0
  · subst f0
    rw [if_pos rfl]
    by_cases hb : 67108864 < tot (stt B os).1 + l.length
    · rw [if_pos hb, if_neg (by decide)]
      obtain ⟨lo, lr, lv, f, ms, ov, xs, h1, h2, -⟩ := id h.ex
      exact h.callR (R := fun e => e = .returned (.int .i64 1)) (AppendR_long0 h2 oa n cap (by omega) (by omega))
    · rw [if_neg hb, if_pos rfl]
      exact h.callD _ fun lr ov xs hd hlo => AppendR_0 hd hlo (xl hd) _ l hl (by omega)
  · rw [if_neg f0]
    by_cases f1 : fl = 1
    · subst f1
      rw [if_pos rfl]
      by_cases hb : 67108864 < tot (stt B os).2 + l.length
      · rw [if_pos hb, if_neg (by decide)]
        obtain ⟨lo, lr, lv, f, ms, ov, xs, h1, h2, -⟩ := id h.ex
        exact h.callR (R := fun e => e = .returned (.int .i64 1)) (AppendR_long1 h2 oa n cap (by omega) (by omega))
      · rw [if_neg hb, if_pos rfl]
        exact h.callD _ fun lr ov xs hd hlo => AppendR_1 hd hlo (xl hd) _ l hl (by omega)
    · rw [if_neg f1, if_neg (by decide)]
      exact h.callR (R := fun e => e = .returned (.int .i64 2)) (AppendR_file w vr fl f0 f1 oa n cap)
theorem cSync {hI : Inhabited HoleT} {W w : World} {v vr : Nat} {B : List Nat × List Nat} {os : List Opn} (h : Pr W v vr B (spOf B os) os w) (hbig : os.length < 1000) (fl : Int) :
    Calls Try.prog 7 #[.pointer (some ⟨v, 0, none⟩), .int .i64 fl] w fun e w' => e = .returned (.int .i64 (synE fl)) ∧ Pr W v vr B (spOf B (nx (synE fl) (1, fl.toNat, [], 0) os)) os w' ∧ Kp w w' := by
  unfold synE nx
  by_cases f0 : fl = 0
  · subst f0
    rw [if_pos (.inl rfl), if_pos rfl, spOf_app]
    refine h.callC _ fun lo lv f ms hd hlo => ?_
    show Calls _ _ _ _ (DoP lo w v lv f ms _ (lk (stepD (1, 0, [], 0) (stt B os))))
    rw [← lk_syn0]
    exact Sync0 hd hlo _ hd.at_os.2 (by have := hd.at_os.1; omega)
  · by_cases f1 : fl = 1
    · subst f1
      rw [if_pos (.inr rfl), if_pos rfl, spOf_app]
      refine h.callC _ fun lo lv f ms hd hlo => ?_
      show Calls _ _ _ _ (DoP lo w v lv f ms _ (lk (stepD (1, 1, [], 0) (stt B os))))
      rw [← lk_syn1]
      exact Sync1 hd hlo _ hd.at_os.2 (by have := hd.at_os.1; omega)
    · rw [if_neg (fun e => by rcases e with e | e; exact f0 e; exact f1 e), if_neg (by decide)]
      exact h.callR (R := fun e => e = .returned (.int .i64 2)) (Sync_file w v fl f0 f1)
theorem dSync {hI : Inhabited HoleT} {W w : World} {v vr : Nat} {B : List Nat × List Nat} {sp : List Sp} {os : List Opn} (h : Pr W v vr B sp os w) (hbig : os.length < 1000) (fl : Int) :
    Calls Try.prog 17 #[.pointer (some ⟨vr, 0, none⟩), .int .i64 fl] w fun e w' => e = .returned (.int .i64 (synE fl)) ∧ Pr W v vr B sp (nx (synE fl) (1, fl.toNat, [], 0) os) w' ∧ Kp w w' := by
  have xl : ∀ {lr : Nat} {ov : Value} {xs : List (Array Value)}, Ro lr w vr ov B (stt B os) xs os → xs.length < 1000000 := fun q => by have := q.len; omega
  unfold synE nx
  by_cases f0 : fl = 0
  · subst f0
    rw [if_pos (.inl rfl), if_pos rfl]
    exact h.callD _ fun lr ov xs hd hlo => SyncR_0 hd hlo (xl hd)
  · by_cases f1 : fl = 1
    · subst f1
      rw [if_pos (.inr rfl), if_pos rfl]
      exact h.callD _ fun lr ov xs hd hlo => SyncR_1 hd hlo (xl hd)
    · rw [if_neg (fun e => by rcases e with e | e; exact f0 e; exact f1 e), if_neg (by decide)]
      exact h.callR (R := fun e => e = .returned (.int .i64 2)) (SyncR_file w vr fl f0 f1)
theorem cCut {hI : Inhabited HoleT} {W w : World} {v vr : Nat} {B : List Nat × List Nat} {os : List Opn} (h : Pr W v vr B (spOf B os) os w) (hbig : os.length < 1000) (fl m : Int) :
    Calls Try.prog 9 #[.pointer (some ⟨v, 0, none⟩), .int .i64 fl, .int .i64 m] w fun e w' => e = .returned (.int .i64 (cutE fl (stt B os) m)) ∧ Pr W v vr B (spOf B (nx (cutE fl (stt B os) m) (2, fl.toNat, [], m.toNat) os)) os w' ∧ Kp w w' := by
  have t0 : (lk (stt B os)).1.1.length = tot (stt B os).1 := tot_lk _
  have t1 : (lk (stt B os)).2.1.length = tot (stt B os).2 := tot_lk _
  unfold cutE nx
  by_cases f0 : fl = 0
  · subst f0
    rw [if_pos rfl]
    by_cases hb : m < 0 ∨ (tot (stt B os).1 : Int) < m
    · rw [if_pos hb, if_neg (by decide)]
      obtain ⟨lo, lr, lv, f, ms, ov, xs, h1, h2, -⟩ := id h.ex
      exact h.callR (R := fun e => e = .returned (.int .i64 2)) (Cut_wrong0 h1 _ h1.at_os.2 (by have := h1.at_os.1; omega) m (by rw [t0]; exact hb))
    · rw [if_neg hb, if_pos rfl, spOf_app]
      obtain ⟨k, rfl⟩ : ∃ k : Nat, m = (k : Int) := ⟨m.toNat, by omega⟩
      refine h.callC _ fun lo lv f ms hd hlo => ?_
      show Calls _ _ _ _ (DoP lo w v lv f ms _ (lk (stepD (2, 0, [], k) (stt B os))))
      rw [← lk_cut0]
      exact Cut0 hd hlo _ hd.at_os.2 (by have := hd.at_os.1; omega) k (by rw [t0]; omega)
  · rw [if_neg f0]
    by_cases f1 : fl = 1
    · subst f1
      rw [if_pos rfl]
      by_cases hb : m < 0 ∨ (tot (stt B os).2 : Int) < m
      · rw [if_pos hb, if_neg (by decide)]
        obtain ⟨lo, lr, lv, f, ms, ov, xs, h1, h2, -⟩ := id h.ex
        exact h.callR (R := fun e => e = .returned (.int .i64 2)) (Cut_wrong1 h1 _ h1.at_os.2 (by have := h1.at_os.1; omega) m (by rw [t1]; exact hb))
      · rw [if_neg hb, if_pos rfl, spOf_app]
        obtain ⟨k, rfl⟩ : ∃ k : Nat, m = (k : Int) := ⟨m.toNat, by omega⟩
        refine h.callC _ fun lo lv f ms hd hlo => ?_
        show Calls _ _ _ _ (DoP lo w v lv f ms _ (lk (stepD (2, 1, [], k) (stt B os))))
        rw [← lk_cut1]
        exact Cut1 hd hlo _ hd.at_os.2 (by have := hd.at_os.1; omega) k (by rw [t1]; omega)
    · rw [if_neg f1, if_neg (by decide)]
      exact h.callR (R := fun e => e = .returned (.int .i64 2)) (Cut_file w v fl m f0 f1)
theorem dCut {hI : Inhabited HoleT} {W w : World} {v vr : Nat} {B : List Nat × List Nat} {sp : List Sp} {os : List Opn} (h : Pr W v vr B sp os w) (hbig : os.length < 1000) (fl m : Int) :
    Calls Try.prog 18 #[.pointer (some ⟨vr, 0, none⟩), .int .i64 fl, .int .i64 m] w fun e w' => e = .returned (.int .i64 (cutE fl (stt B os) m)) ∧ Pr W v vr B sp (nx (cutE fl (stt B os) m) (2, fl.toNat, [], m.toNat) os) w' ∧ Kp w w' := by
  have xl : ∀ {lr : Nat} {ov : Value} {xs : List (Array Value)}, Ro lr w vr ov B (stt B os) xs os → xs.length < 1000000 := fun q => by have := q.len; omega
  unfold cutE nx
  by_cases f0 : fl = 0
  · subst f0
    rw [if_pos rfl]
    by_cases hb : m < 0 ∨ (tot (stt B os).1 : Int) < m
    · rw [if_pos hb, if_neg (by decide)]
      obtain ⟨lo, lr, lv, f, ms, ov, xs, h1, h2, -⟩ := id h.ex
      exact h.callR (R := fun e => e = .returned (.int .i64 2)) (CutR_wrong0 h2 m hb)
    · rw [if_neg hb, if_pos rfl]
      obtain ⟨k, rfl⟩ : ∃ k : Nat, m = (k : Int) := ⟨m.toNat, by omega⟩
      exact h.callD _ fun lr ov xs hd hlo => CutR_0 hd hlo (xl hd) k (by omega)
  · rw [if_neg f0]
    by_cases f1 : fl = 1
    · subst f1
      rw [if_pos rfl]
      by_cases hb : m < 0 ∨ (tot (stt B os).2 : Int) < m
      · rw [if_pos hb, if_neg (by decide)]
        obtain ⟨lo, lr, lv, f, ms, ov, xs, h1, h2, -⟩ := id h.ex
        exact h.callR (R := fun e => e = .returned (.int .i64 2)) (CutR_wrong1 h2 m hb)
      · rw [if_neg hb, if_pos rfl]
        obtain ⟨k, rfl⟩ : ∃ k : Nat, m = (k : Int) := ⟨m.toNat, by omega⟩
        exact h.callD _ fun lr ov xs hd hlo => CutR_1 hd hlo (xl hd) k (by omega)
    · rw [if_neg f1, if_neg (by decide)]
      exact h.callR (R := fun e => e = .returned (.int .i64 2)) (CutR_file w vr fl m f0 f1)
/-- What has been done was right at its time. -/
def Tr (B : List Nat × List Nat) (os : List Opn) : Prop := ∀ (i : Nat) o, os[i]? = some o → okO o (stt B (os.take i))
theorem Tr.nx {B : List Nat × List Nat} {os : List Opn} (h : Tr B os) (E : Int) (o : Opn) (ho : E = 0 → okO o (stt B os)) : Tr B (nx E o os) := by
  unfold Go.Proofs.Ytdiflmckjpmngaa.nx
  by_cases e : E = 0
  · rw [if_pos e]
    intro i p hp
    by_cases hi : i < os.length
    · rw [List.getElem?_append_left hi] at hp
      rw [List.take_append_of_le_length (by omega)]
      exact h i p hp
    · have hi2 : i = os.length := by
        have := (List.getElem?_eq_some_iff.1 hp).1
        simp at this
        omega
      subst hi2
      rw [List.getElem?_append_right (Nat.le_refl _), Nat.sub_self] at hp
      obtain rfl : o = p := by simpa using hp
      rw [List.take_append_of_le_length (Nat.le_refl _), List.take_of_length_le (Nat.le_refl _)]
      exact ho e
  · rw [if_neg e]
    exact h
theorem ok_app {fl : Int} {s : Fl × Fl} {l : List Nat} (h : appE fl s l.length = 0) : okO (0, fl.toNat, l, 0) s := by
  unfold appE at h
  by_cases f0 : fl = 0
  · subst f0
    rw [if_pos rfl] at h
    refine ⟨.inl rfl, .inl ⟨rfl, ?_⟩⟩
    show tot s.1 + l.length ≤ _
    by_cases hb : 67108864 < tot s.1 + l.length
    · rw [if_pos hb] at h; cases h
    · omega
  · rw [if_neg f0] at h
    by_cases f1 : fl = 1
    · subst f1
      rw [if_pos rfl] at h
      refine ⟨.inr rfl, .inl ⟨rfl, ?_⟩⟩
      show tot s.2 + l.length ≤ _
      by_cases hb : 67108864 < tot s.2 + l.length
      · rw [if_pos hb] at h; cases h
      · omega
    · rw [if_neg f1] at h; cases h
theorem ok_syn {fl : Int} {s : Fl × Fl} (h : synE fl = 0) : okO (1, fl.toNat, [], 0) s := by
  unfold synE at h
  by_cases f : fl = 0 ∨ fl = 1
  · refine ⟨?_, .inr (.inl rfl)⟩
    rcases f with rfl | rfl
    · exact .inl rfl
    · exact .inr rfl
  · rw [if_neg f] at h; cases h
theorem ok_cut {fl m : Int} {s : Fl × Fl} (h : cutE fl s m = 0) : okO (2, fl.toNat, [], m.toNat) s := by
  unfold cutE at h
  by_cases f0 : fl = 0
  · subst f0
    rw [if_pos rfl] at h
    refine ⟨.inl rfl, .inr (.inr ⟨rfl, ?_⟩)⟩
    show m.toNat ≤ tot s.1
    by_cases hb : m < 0 ∨ (tot s.1 : Int) < m
    · rw [if_pos hb] at h; cases h
    · omega
  · rw [if_neg f0] at h
    by_cases f1 : fl = 1
    · subst f1
      rw [if_pos rfl] at h
      refine ⟨.inr rfl, .inr (.inr ⟨rfl, ?_⟩)⟩
      show m.toNat ≤ tot s.2
      by_cases hb : m < 0 ∨ (tot s.2 : Int) < m
      · rw [if_pos hb] at h; cases h
      · omega
    · rw [if_neg f1] at h; cases h
theorem nx_len (E : Int) (o : Opn) (os : List Opn) : (nx E o os).length ≤ os.length + 1 := by
  unfold nx
  split
  · simp
  · omega
end Go.Proofs.Ytdiflmckjpmngaa
