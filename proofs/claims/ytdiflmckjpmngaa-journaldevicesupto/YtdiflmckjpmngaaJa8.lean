/- JournalDevices: Count, Disk and At of both, as one account; what was handed out is wiped. -/
import Derived.Test.YtdiflmckjpmngaaJa5
import Derived.Test.YtdiflmckjpmngaaJa6
import Derived.Test.YtdiflmckjpmngaaJa7
import Derived.Test.YtdiflmckjpmngaaJvU
import Derived.Test.YtdiflmckjpmngaaJv9
import Derived.Test.YtdiflmckjpmngaaJa1
namespace Go.Proofs.Ytdiflmckjpmngaa
open Go.RowKit
/-- A disk that was handed out. -/
structure HoP (w : World) (p q : List Nat) (o0 o1 : Option Addr) (w' : World) : Prop where
  f0 : Fi w' w' o0 p.length
  f1 : Fi w' w' o1 q.length
  b0 : Bl w' (.slice o0 p.length p.length) p
  b1 : Bl w' (.slice o1 q.length q.length) q
  g0 : ∀ a, o0 = some a → w.heap.size ≤ a.block
  g1 : ∀ a, o1 = some a → w.heap.size ≤ a.block
  bel : Below w.heap.size w w'
  l0 : p.length ≤ LIM
  l1 : q.length ≤ LIM
theorem ho_nil {w w' : World} (h : Below w.heap.size w w') : HoP w [] [] none none w' :=
  ⟨.inl ⟨rfl, rfl⟩, .inl ⟨rfl, rfl⟩, ⟨none, 0, rfl, Nat.le_refl _, Nat.zero_le _, (fun x h => by cases h), fun j u h => by simp [bs] at h⟩, ⟨none, 0, rfl, Nat.le_refl _, Nat.zero_le _, (fun x h => by cases h), fun j u h => by simp [bs] at h⟩, (fun a h => by cases h), (fun a h => by cases h), h, Nat.zero_le _, Nat.zero_le _⟩
theorem bl_row {w : World} {g : Nat} {l : List Nat} (h : w.heap[g]? = some (.cells (bs l).toArray 5 (0, 0))) (hb : Byt l) (hl : l.length ≤ LIM) : Bl w (.slice (some ⟨g, 0, none⟩) l.length l.length) l := by
  refine ⟨some ⟨g, 0, none⟩, l.length, rfl, Nat.le_refl _, by unfold LIM at hl; unfold maxLen; omega, hb, fun j u hu => ⟨g, 0, rfl, (Array.getElem?_eq_some_iff.1 h).1, ?_⟩⟩
  rw [Nat.zero_add, cell_of_row _ _ _ _ _ _ h]
  simpa using hu
theorem ho_dk {w w' : World} {x : Sp} {c : Array Value} (h : DkP w x c w') (hb0 : Byt x.1.1) (hb1 : Byt x.2.1) (hl0 : x.1.1.length ≤ LIM) (hl1 : x.2.1.length ≤ LIM) : ∃ o0 o1, c = #[.slice o0 x.1.1.length x.1.1.length, .slice o1 x.2.1.length x.2.1.length] ∧ HoP w x.1.1 x.2.1 o0 o1 w' := by
  obtain ⟨g0, g1, rfl, h1, h2, h3, h4, h5, h6⟩ := h
  refine ⟨some ⟨g0, 0, none⟩, some ⟨g1, 0, none⟩, rfl, .inr ⟨g0, _, rfl, (Array.getElem?_eq_some_iff.1 h1).1, h1, by simp [bs_len]⟩, .inr ⟨g1, _, rfl, (Array.getElem?_eq_some_iff.1 h2).1, h2, by simp [bs_len]⟩, bl_row h1 hb0 hl0, bl_row h2 hb1 hl1, fun a e => ?_, fun a e => ?_, h6, hl0, hl1⟩
  · injection e with e; subst e; exact h3
  · injection e with e; subst e; exact h4
theorem HoP.below {w w' w2 : World} {p q : List Nat} {o0 o1 : Option Addr} (h : HoP w p q o0 o1 w') (hb : Below w'.heap.size w' w2) : HoP w p q o0 o1 w2 := by
  have k : ∀ {o : Option Addr} {n : Nat}, Fi w' w' o n → Fi w2 w2 o n := fun hf => by
    rcases hf with hf | ⟨g, C, q1, q2, q3, q4⟩
    · exact .inl hf
    · exact .inr ⟨g, C, q1, Nat.lt_of_lt_of_le q2 hb.size, (hb.block g q2).trans q3, q4⟩
  exact ⟨k h.f0, k h.f1, h.b0.below hb, h.b1.below hb, h.g0, h.g1, h.bel.trans (hb.mono h.bel.size), h.l0, h.l1⟩
theorem HoP.wipe {w w' : World} {p q : List Nat} {o0 o1 : Option Addr} (h : HoP w p q o0 o1 w') : Calls Try.prog 20 #[.agg #[.slice o0 p.length p.length, .slice o1 q.length q.length]] w' fun e w2 => e = .returned (.tuple #[]) ∧ Below w.heap.size w w2 :=
  (wipe_any w' o0 o1 _ _ h.f0 h.f1 h.l0 h.l1).mono fun e w2 ⟨h1, h2⟩ => ⟨h1, h2.os.trans h.bel.os, h2.tape.trans h.bel.tape, h2.output.trans h.bel.output, Nat.le_trans h.bel.size h2.size, fun j hj => (h2.block j (Nat.lt_of_lt_of_le hj h.bel.size) (fun a e => by have := h.g0 a e; omega) (fun a e => by have := h.g1 a e; omega)).trans (h.bel.block j hj)⟩
theorem Dv.facts {hI : Inhabited HoleT} {lo v : Nat} {W : World} {lv : Value} {f : Array Value} {ms : List (Array Value)} {sp : List Sp} (h : Dv lo W v lv f ms sp) {i : Nat} {x : Sp} (hx : sp[i]? = some x) : Byt x.1.1 ∧ Byt x.2.1 ∧ x.1.1.length ≤ LIM ∧ x.2.1.length ≤ LIM := by
  have hi : i < sp.length := (List.getElem?_eq_some_iff.1 hx).1
  obtain ⟨m, hm⟩ : ∃ m, (f :: ms)[i]? = some m := ⟨_, List.getElem?_eq_getElem (by rw [List.length_cons, ← h.len]; exact hi)⟩
  obtain ⟨p0, p1, -, ⟨_, -, h1, _, h2⟩, ⟨_, -, h3, _, h4⟩⟩ := h.each _ m x hm hx
  exact ⟨h1.byt, h3.byt, h2, h4⟩
theorem cCount {hI : Inhabited HoleT} {W w : World} {v vr : Nat} {B : List Nat × List Nat} {os : List Opn} (h : Pr W v vr B (spOf B os) os w) : Calls Try.prog 8 #[.pointer (some ⟨v, 0, none⟩)] w fun e w' => e = .returned (.int .i64 (os.length : Int)) ∧ w' = w := by
  obtain ⟨lo, lr, lv, f, ms, ov, xs, h1, h2, -⟩ := h.ex
  rw [← h1.at_os.1]
  exact count_any h1
theorem dCount {hI : Inhabited HoleT} {W w : World} {v vr : Nat} {B : List Nat × List Nat} {sp : List Sp} {os : List Opn} (h : Pr W v vr B sp os w) : Calls Try.prog 22 #[.pointer (some ⟨vr, 0, none⟩)] w fun e w' => e = .returned (.int .i64 (os.length : Int)) ∧ w' = w := by
  obtain ⟨lo, lr, lv, f, ms, ov, xs, h1, h2, -⟩ := h.ex
  rw [h2.len]
  exact CountR_any h2
theorem cDisk {hI : Inhabited HoleT} {W w : World} {v vr : Nat} {B : List Nat × List Nat} {os : List Opn} (h : Pr W v vr B (spOf B os) os w) (hbig : os.length < 1000) : Calls Try.prog 10 #[.pointer (some ⟨v, 0, none⟩)] w fun e w' => ∃ o0 o1, e = .returned (.agg #[.slice o0 (lk (stt B os)).1.1.length (lk (stt B os)).1.1.length, .slice o1 (lk (stt B os)).2.1.length (lk (stt B os)).2.1.length]) ∧ HoP w (lk (stt B os)).1.1 (lk (stt B os)).2.1 o0 o1 w' := by
  obtain ⟨lo, lr, lv, f, ms, ov, xs, h1, h2, -⟩ := h.ex
  refine (Disk_any h1 _ h1.at_os.2 (by have := h1.at_os.1; omega)).mono fun e w' ⟨c, q1, q2⟩ => ?_
  obtain ⟨a, b, c, d⟩ := h1.facts h1.at_os.2
  obtain ⟨o0, o1, rfl, q3⟩ := ho_dk q2 a b c d
  exact ⟨o0, o1, q1, q3⟩
theorem dDisk {hI : Inhabited HoleT} {W w : World} {v vr : Nat} {B : List Nat × List Nat} {sp : List Sp} {os : List Opn} (h : Pr W v vr B sp os w) : Calls Try.prog 21 #[.pointer (some ⟨vr, 0, none⟩)] w fun e w' => ∃ c, e = .returned c ∧ DkB w (lk (stt B os)).1.1 (lk (stt B os)).2.1 c w' := by
  obtain ⟨lo, lr, lv, f, ms, ov, xs, h1, h2, -⟩ := h.ex
  exact DiskR_any h2.rw
abbrev atBad (os : List Opn) (n k0 k1 : Int) : Prop := n < 0 ∨ (os.length : Int) < n ∨ k0 < 0 ∨ k1 < 0
def atE (os : List Opn) (n k0 k1 : Int) : Int := if atBad os n k0 k1 then 2 else 0
def kpt (x : Fl) (k : Nat) : List Nat := x.1 ++ x.2.take (min k x.2.length)
def atP (B : List Nat × List Nat) (os : List Opn) (n k0 k1 : Int) : List Nat × List Nat := if atBad os n k0 k1 then ([], []) else (kpt (stt B (os.take n.toNat)).1 k0.toNat, kpt (stt B (os.take n.toNat)).2 k1.toNat)
theorem cut_kpt (x : Fl) (k : Nat) : (cutP (lk1 x) k).1 = kpt x k := by
  unfold cutP keepN kpt lk1
  simp only [List.length_append, Nat.add_sub_cancel_left]
  rw [List.take_append, List.take_of_length_le (by omega), Nat.add_sub_cancel_left]
theorem cAt {hI : Inhabited HoleT} {W w : World} {v vr : Nat} {B : List Nat × List Nat} {os : List Opn} (h : Pr W v vr B (spOf B os) os w) (hbig : os.length < 1000) (n k0 k1 : Int) (hk0 : k0 < 9223372036854775808) (hk1 : k1 < 9223372036854775808) : Calls Try.prog 11 #[.pointer (some ⟨v, 0, none⟩), .int .i64 n, .agg #[.int .i64 k0, .int .i64 k1]] w fun e w' => ∃ o0 o1, e = .returned (.tuple #[.agg #[.slice o0 (atP B os n k0 k1).1.length (atP B os n k0 k1).1.length, .slice o1 (atP B os n k0 k1).2.length (atP B os n k0 k1).2.length], .int .i64 (atE os n k0 k1)]) ∧ HoP w (atP B os n k0 k1).1 (atP B os n k0 k1).2 o0 o1 w' := by
  obtain ⟨lo, lr, lv, f, ms, ov, xs, h1, h2, -⟩ := h.ex
  unfold atE atP
  have hms := h1.at_os.1
  by_cases hb : atBad os n k0 k1
  · rw [if_pos hb, if_pos hb]
    refine (At_bad h1 n k0 k1 (by rw [hms]; exact hb)).mono fun e w' ⟨q1, q2⟩ => ⟨none, none, q1, ho_nil q2⟩
  · rw [if_neg hb, if_neg hb]
    unfold atBad at hb
    obtain ⟨i, rfl⟩ : ∃ i : Nat, n = (i : Int) := ⟨n.toNat, by omega⟩
    obtain ⟨a0, rfl⟩ : ∃ i : Nat, k0 = (i : Int) := ⟨k0.toNat, by omega⟩
    obtain ⟨a1, rfl⟩ : ∃ i : Nat, k1 = (i : Int) := ⟨k1.toNat, by omega⟩
    have hx := spOf_at B os i (by omega)
    refine (At_good h1 i _ hx (by omega) a0 a1 (by omega) (by omega)).mono fun e w' ⟨c, q1, q2⟩ => ?_
    obtain ⟨a, b, c1, d⟩ := h1.facts hx
    have e0 : (cutP (lk (stt B (os.take i))).1 a0).1 = kpt (stt B (os.take i)).1 a0 := cut_kpt _ _
    have e1 : (cutP (lk (stt B (os.take i))).2 a1).1 = kpt (stt B (os.take i)).2 a1 := cut_kpt _ _
    obtain ⟨o0, o1, hc, q3⟩ := ho_dk q2 (byt_cut a a0) (byt_cut b a1) (by show ((lk (stt B (os.take i))).1.1.take _).length ≤ LIM; rw [List.length_take]; omega) (by show ((lk (stt B (os.take i))).2.1.take _).length ≤ LIM; rw [List.length_take]; omega)
    rw [e0, e1] at hc q3
    subst hc
    exact ⟨o0, o1, q1, q3⟩
theorem dAt {hI : Inhabited HoleT} {W w : World} {v vr : Nat} {B : List Nat × List Nat} {sp : List Sp} {os : List Opn} (h : Pr W v vr B sp os w) (htr : Tr B os) (hB : B.1.length ≤ 50000000000000 ∧ B.2.length ≤ 50000000000000) (hbig : os.length < 1000) (n k0 k1 : Int) (hk0 : k0 < 9223372036854775808) (hk1 : k1 < 9223372036854775808) : Calls Try.prog 19 #[.pointer (some ⟨vr, 0, none⟩), .int .i64 n, .agg #[.int .i64 k0, .int .i64 k1]] w fun e w' => ∃ c, e = .returned (.tuple #[c, .int .i64 (atE os n k0 k1)]) ∧ DkB w (atP B os n k0 k1).1 (atP B os n k0 k1).2 c w' := by
  obtain ⟨lo, lr, lv, f, ms, ov, xs, h1, h2, -⟩ := h.ex
  have hl := h2.len
  unfold atE atP
  by_cases hb : atBad os n k0 k1
  · rw [if_pos hb, if_pos hb]
    refine (AtR_bad h2 n k0 k1 (by rw [← hl]; exact hb)).mono fun e w' ⟨q1, q2⟩ => ⟨_, q1, _, _, rfl, (ho_nil q2).b0, (ho_nil q2).b1, q2⟩
  · rw [if_neg hb, if_neg hb]
    unfold atBad at hb
    obtain ⟨i, rfl⟩ : ∃ i : Nat, n = (i : Int) := ⟨n.toNat, by omega⟩
    obtain ⟨a0, rfl⟩ : ∃ i : Nat, k0 = (i : Int) := ⟨k0.toNat, by omega⟩
    obtain ⟨a1, rfl⟩ : ∃ i : Nat, k1 = (i : Int) := ⟨k1.toNat, by omega⟩
    exact AtR_good h2 htr hB i a0 a1 (by omega) (by omega) (by omega) (by omega) _ rfl
end Go.Proofs.Ytdiflmckjpmngaa
