/- Several texts in one: JuJ, JuK, JuL. -/
import Derived.Test.YtfimaflglnemdaaDoorJqC
import Derived.Test.YtfimaflglnemdaaDoorJqX
import Derived.Deep.RegionHeld3
/- The journal's rows: the device by a file's number; the journal as it lies; frames by kinds of blocks. -/
namespace Go.Proofs.YtfimaflglnemdaaDoor
open Go.RowKit
open JM
set_option maxRecDepth 20000
namespace Dev
/-- A file of a moment, by its number. -/
def fl (x : Sp) (i : Nat) : List Nat × Nat := if i = 0 then x.1 else x.2
def up (x : Sp) (i : Nat) (p : List Nat × Nat) : Sp := if i = 0 then (p, x.2) else (x.1, p)
theorem fl_same (x : Sp) (i : Nat) (p : List Nat × Nat) : fl (up x i p) i = p := by
  unfold fl up
  split <;> rfl
theorem fl_other {x : Sp} {i k : Nat} {p : List Nat × Nat} (hi : i ≤ 1) (hk : k ≤ 1) (h : k ≠ i) : fl (up x i p) k = fl x k := by
  unfold fl up
  obtain rfl | rfl : i = 0 ∨ i = 1 := by omega
  · rw [if_pos rfl, if_neg h, if_neg h]
  · obtain rfl : k = 0 := by omega
    rfl
section
variable [Inhabited HoleT] {lo v : Nat} {W : World} {lv : Value} {f : Array Value} {ms : List (Array Value)} {sp : List Sp}
theorem appendI (h : Dv lo W v lv f ms sp) (hlo : lo ≤ W.heap.size) (x : Sp) (hx : sp[ms.length]? = some x) (hbig : ms.length < 1000000) (i : Nat) (hi : i ≤ 1) (u : Value) (l : List Nat) (hl : Bl W u l) (hroom : (fl x i).1.length + l.length ≤ 67108864) : Calls Tryd.prog 29 #[.pointer (some ⟨v, 0, none⟩), .int .i64 (i : Int), u] W (DoP lo W v lv f ms sp (up x i ((fl x i).1 ++ l, (fl x i).2))) := by
  obtain rfl | rfl : i = 0 ∨ i = 1 := by omega
  · exact Append0 h hlo x hx hbig u l hl hroom
  · exact Append1 h hlo x hx hbig u l hl hroom
theorem syncI (h : Dv lo W v lv f ms sp) (hlo : lo ≤ W.heap.size) (x : Sp) (hx : sp[ms.length]? = some x) (hbig : ms.length < 1000000) (i : Nat) (hi : i ≤ 1) : Calls Tryd.prog 30 #[.pointer (some ⟨v, 0, none⟩), .int .i64 (i : Int)] W (DoP lo W v lv f ms sp (up x i ((fl x i).1, (fl x i).1.length))) := by
  obtain rfl | rfl : i = 0 ∨ i = 1 := by omega
  · exact Sync0 h hlo x hx hbig
  · exact Sync1 h hlo x hx hbig
theorem cutI (h : Dv lo W v lv f ms sp) (hlo : lo ≤ W.heap.size) (x : Sp) (hx : sp[ms.length]? = some x) (hbig : ms.length < 1000000) (i : Nat) (hi : i ≤ 1) : Calls Tryd.prog 31 #[.pointer (some ⟨v, 0, none⟩), .int .i64 (i : Int), .int .i64 0] W (DoP lo W v lv f ms sp (up x i ([], 0))) := by
  obtain rfl | rfl : i = 0 ∨ i = 1 := by omega
  · have := Cut0 h hlo x hx hbig 0 (Nat.zero_le _)
    rw [List.take_zero, Nat.min_zero] at this
    exact this
  · have := Cut1 h hlo x hx hbig 0 (Nat.zero_le _)
    rw [List.take_zero, Nat.min_zero] at this
    exact this
theorem sizeI (h : Dv lo W v lv f ms sp) (x : Sp) (hk : sp[ms.length]? = some x) (hbig : ms.length < 1000000) (i : Nat) (hi : i ≤ 1) : Calls Tryd.prog 49 #[.pointer (some ⟨v, 0, none⟩), .int .i64 (i : Int)] W fun e w' => e = .returned (.int .i64 ((fl x i).1.length : Int)) ∧ Below W.heap.size W w' := by
  obtain rfl | rfl : i = 0 ∨ i = 1 := by omega
  · exact size0 h x hk (by omega)
  · exact size1 h x hk (by omega)
end
/-- What calls of a journal leave: all but the blocks of a device, of its moments and of a journal. -/
structure Fo (lo : Nat) (W w' : World) : Prop where
  os : w'.os = W.os
  tape : w'.tape = W.tape
  output : w'.output = W.output
  size : W.heap.size ≤ w'.heap.size
  low : ∀ k : Nat, k < lo → k < W.heap.size → w'.heap[k]? = W.heap[k]?
  oth : ∀ (k : Nat) (c : Array Value) (t : Nat), W.heap[k]? = some (.cells c t (0, 0)) → t ≠ 93 → t ≠ 90 → t ≠ 101 → w'.heap[k]? = W.heap[k]?
  nc : ∀ (k : Nat) (o : Obj), W.heap[k]? = some o → (∀ c t, o ≠ .cells c t (0, 0)) → w'.heap[k]? = some o
theorem Fo.refl (lo : Nat) (W : World) : Fo lo W W := ⟨rfl, rfl, rfl, Nat.le_refl _, fun _ _ _ => rfl, fun _ _ _ _ _ _ _ => rfl, fun _ _ hk _ => hk⟩
theorem Fo.trans {lo : Nat} {A B C : World} (h : Fo lo A B) (h' : Fo lo B C) : Fo lo A C :=
  ⟨h'.os.trans h.os, h'.tape.trans h.tape, h'.output.trans h.output, Nat.le_trans h.size h'.size, fun k hk h2 => (h'.low k hk (Nat.lt_of_lt_of_le h2 h.size)).trans (h.low k hk h2), fun k c t hc h1 h2 h3 => (h'.oth k c t ((h.oth k c t hc h1 h2 h3).trans hc) h1 h2 h3).trans (h.oth k c t hc h1 h2 h3), fun k o hk ho => h'.nc k o (h.nc k o hk ho) ho⟩
theorem Fo.of_below {lo : Nat} {A B : World} (h : Below A.heap.size A B) : Fo lo A B := ⟨h.os, h.tape, h.output, h.size, fun k _ h2 => h.block k h2, fun k _ _ hc _ _ _ => h.block k (Array.getElem?_eq_some_iff.1 hc).1, fun k _ hk _ => (h.block k (Array.getElem?_eq_some_iff.1 hk).1).trans hk⟩
theorem Fo.below {lo : Nat} {A B : World} (h : Fo lo A B) (hlo : lo ≤ A.heap.size) : Below lo A B := ⟨h.os, h.tape, h.output, h.size, fun k hk => h.low k hk (Nat.lt_of_lt_of_le hk hlo)⟩
theorem Fo.stay {lo B : Nat} {T : Nat → Prop} {A C : World} (h : Fo lo A C) (hT : ∀ t, T t → t ≠ 93 ∧ t ≠ 90 ∧ t ≠ 101) : Stay B T A C := fun k c t _ ht hc => h.oth k c t hc (hT t ht).1 (hT t ht).2.1 (hT t ht).2.2
def jrow (v lim live gen last : Nat) : Array Value := #[.pointer (some ⟨v, 0, none⟩), .int .i64 (lim : Int), .int .i64 (live : Int), .int .i64 (gen : Int), .int .i64 (last : Int)]
/-- A journal as it lies: its device's last moment x behind n operations. -/
structure Jn [Inhabited HoleT] (lo : Nat) (W : World) (j v lim live gen last n : Nat) (x : Sp) : Prop where
  dv : ∃ lv f ms sp, Dv lo W v lv f ms sp ∧ ms.length = n ∧ sp[n]? = some x
  row : W.heap[j]? = some (.cells (jrow v lim live gen last) 101 (0, 0))
  hole : inHole j
  hlo : lo ≤ W.heap.size
  loj : lo ≤ j
  big : n < 1000000
  live1 : live ≤ 1
theorem Dv.keepH [Inhabited HoleT] {lo v j : Nat} {W W' : World} {lv : Value} {f : Array Value} {ms : List (Array Value)} {sp : List Sp} (h : Dv lo W v lv f ms sp) (hs : W.heap.size ≤ W'.heap.size) (hk : ∀ k, k < W.heap.size → k ≠ j → W'.heap[k]? = W.heap[k]?) (hj : inHole j) (hv : v ≠ j) (ho : lv.ownBlock ≠ some j) : Dv lo W' v lv f ms sp := by
  have hlt := h.own.lt
  refine ⟨(hk v (Array.getElem?_eq_some_iff.1 h.row).1 hv).trans h.row, ?_, h.len, fun i m s h1 h2 => (h.each i m s h1 h2).keep (fun k q => hk k q.2.1 (fun e => q.1.2 (e ▸ hj))) (fun k q => ⟨q.1, Nat.lt_of_lt_of_le q.2.1 hs, q.2.2⟩), h.lov, Nat.le_trans h.hb hs⟩
  obtain ⟨h0, h1⟩ := h.own
  refine ⟨h0, ?_⟩
  rcases h1 with h1 | ⟨g, cap, cur, rfl, hB, hg, hr⟩
  · exact .inl h1
  · exact .inr ⟨g, cap, cur, rfl, hB, (hk g (hlt g rfl).2 (fun e => ho (by rw [← e]; rfl))).trans hg, hr⟩
theorem row_ne {W : World} {a b ta tb : Nat} {ca cb : Array Value} (ha : W.heap[a]? = some (.cells ca ta (0, 0))) (hb : W.heap[b]? = some (.cells cb tb (0, 0))) (ht : ta ≠ tb) : a ≠ b := fun e => by
  subst e
  rw [ha] at hb
  injection hb with hb
  injection hb with _ hb
  exact ht hb
section
variable [Inhabited HoleT] {lo j v lim live gen last n : Nat} {W : World} {x : Sp}
theorem Jn.below {W' : World} (h : Jn lo W j v lim live gen last n x) (hb : Below W.heap.size W W') : Jn lo W' j v lim live gen last n x := by
  obtain ⟨lv, f, ms, sp, h1, h2, h3⟩ := h.dv
  exact ⟨⟨lv, f, ms, sp, h1.below hb, h2, h3⟩, (hb.block j (Array.getElem?_eq_some_iff.1 h.row).1).trans h.row, h.hole, Nat.le_trans h.hlo hb.size, h.loj, h.big, h.live1⟩
theorem Jn.c0 (h : Jn lo W j v lim live gen last n x) : W.cell? ⟨j, 0, none⟩ = some (.pointer (some ⟨v, 0, none⟩)) := (cell_of_row _ _ _ _ _ _ h.row).trans rfl
theorem Jn.c1 (h : Jn lo W j v lim live gen last n x) : W.cell? ⟨j, 1, none⟩ = some (.int .i64 (lim : Int)) := (cell_of_row _ _ _ _ _ _ h.row).trans rfl
theorem Jn.c2 (h : Jn lo W j v lim live gen last n x) : W.cell? ⟨j, 2, none⟩ = some (.int .i64 (live : Int)) := (cell_of_row _ _ _ _ _ _ h.row).trans rfl
theorem Jn.c3 (h : Jn lo W j v lim live gen last n x) : W.cell? ⟨j, 3, none⟩ = some (.int .i64 (gen : Int)) := (cell_of_row _ _ _ _ _ _ h.row).trans rfl
theorem Jn.c4 (h : Jn lo W j v lim live gen last n x) : W.cell? ⟨j, 4, none⟩ = some (.int .i64 (last : Int)) := (cell_of_row _ _ _ _ _ _ h.row).trans rfl
theorem Jn.fz (h : Jn lo W j v lim live gen last n x) (k : Nat) : W.frozen? ⟨j, k, none⟩ = false := frozen_of_row _ _ _ _ _ h.row
/-- A field is written over. -/
theorem Jn.put (h : Jn lo W j v lim live gen last n x) (R : Array Value) : Fo lo W (W.setRow j R) ∧ ∃ lv f ms sp, Dv lo (W.setRow j R) v lv f ms sp ∧ ms.length = n ∧ sp[n]? = some x := by
  obtain ⟨lv, f, ms, sp, h1, h2, h3⟩ := h.dv
  refine ⟨⟨rfl, rfl, rfl, by rw [size_setRow]; exact Nat.le_refl _, fun k hk _ => setRow_other _ _ _ _ (by have := h.loj; omega), fun k c t hc _ _ ht => setRow_other _ _ _ _ (row_ne hc h.row ht), fun k o hk ho => (setRow_other _ _ _ _ (fun e => by
    rw [e, h.row] at hk
    injection hk with hk
    subst hk
    exact ho _ _ rfl)).trans hk⟩, lv, f, ms, sp, ?_, h2, h3⟩
  refine h1.keepH (j := j) (by rw [size_setRow]; exact Nat.le_refl _) (fun k _ hk => setRow_other _ _ _ _ hk) h.hole (row_ne h1.row h.row (by decide)) (fun e => ?_)
  obtain ⟨-, -, cur, h5⟩ := h1.ownrow e
  exact row_ne h5 h.row (by decide) rfl
theorem Jn.setL (h : Jn lo W j v lim live gen last n x) (i : Nat) (hi : i ≤ 1) : Jn lo (W.setCell ⟨j, 2, none⟩ (.int .i64 (i : Int))) j v lim i gen last n x ∧ Fo lo W (W.setCell ⟨j, 2, none⟩ (.int .i64 (i : Int))) := by
  rw [setCell_eq_setRow W j 2 _ _ _ _ h.row]
  obtain ⟨p1, p2⟩ := h.put (jrow v lim i gen last)
  exact ⟨⟨p2, setRow_heap _ _ _ _ _ _ h.row, h.hole, by rw [size_setRow]; exact h.hlo, h.loj, h.big, hi⟩, p1⟩
theorem Jn.setG (h : Jn lo W j v lim live gen last n x) (g : Nat) : Jn lo (W.setCell ⟨j, 3, none⟩ (.int .i64 (g : Int))) j v lim live g last n x ∧ Fo lo W (W.setCell ⟨j, 3, none⟩ (.int .i64 (g : Int))) := by
  rw [setCell_eq_setRow W j 3 _ _ _ _ h.row]
  obtain ⟨p1, p2⟩ := h.put (jrow v lim live g last)
  exact ⟨⟨p2, setRow_heap _ _ _ _ _ _ h.row, h.hole, by rw [size_setRow]; exact h.hlo, h.loj, h.big, h.live1⟩, p1⟩
theorem Jn.setN (h : Jn lo W j v lim live gen last n x) (g : Nat) : Jn lo (W.setCell ⟨j, 4, none⟩ (.int .i64 (g : Int))) j v lim live gen g n x ∧ Fo lo W (W.setCell ⟨j, 4, none⟩ (.int .i64 (g : Int))) := by
  rw [setCell_eq_setRow W j 4 _ _ _ _ h.row]
  obtain ⟨p1, p2⟩ := h.put (jrow v lim live gen g)
  exact ⟨⟨p2, setRow_heap _ _ _ _ _ _ h.row, h.hole, by rw [size_setRow]; exact h.hlo, h.loj, h.big, h.live1⟩, p1⟩
theorem Fr.fo {w' : World} {lv : Value} {f : Array Value} {ms : List (Array Value)} {sp : List Sp} (h : Fr W w' v lv) (hd : Dv lo W v lv f ms sp) : Fo lo W w' := by
  refine ⟨h.os, h.tape, h.output, h.size, fun k hk h2 => h.block k h2 (by have := hd.lov; omega) (fun e => ?_), fun k c t hc t1 t2 t3 => h.block k (Array.getElem?_eq_some_iff.1 hc).1 (row_ne hc hd.row t1) (fun e => ?_), fun k o hk ho => (h.block k (Array.getElem?_eq_some_iff.1 hk).1 (fun e => ?_) (fun e => ?_)).trans hk⟩
  · have := (hd.ownrow e).2.1
    omega
  · obtain ⟨-, -, cur, h5⟩ := hd.ownrow e
    exact row_ne hc h5 t2 rfl
  · rw [e, hd.row] at hk
    injection hk with hk
    subst hk
    exact ho _ _ rfl
  · obtain ⟨-, -, cur, h5⟩ := hd.ownrow e
    rw [h5] at hk
    injection hk with hk
    subst hk
    exact ho _ _ rfl
/-- An operation of the device. -/
theorem Jn.did (h : Jn lo W j v lim live gen last n x) (hn : n + 1 < 1000000) {lv : Value} {f : Array Value} {ms : List (Array Value)} {sp : List Sp} (hd : Dv lo W v lv f ms sp) (hms : ms.length = n) {x' : Sp} {e : Ending} {w' : World} (hp : DoP lo W v lv f ms sp x' e w') : e = .returned (.int .i64 0) ∧ Jn lo w' j v lim live gen last (n + 1) x' ∧ Fo lo W w' := by
  obtain ⟨h1, lv', m', h2, h3⟩ := hp
  have hjv : j ≠ v := row_ne h.row hd.row (by decide)
  have hjl : lv.ownBlock ≠ some j := fun e => by
    obtain ⟨-, -, cur, h5⟩ := hd.ownrow e
    exact row_ne h5 h.row (by decide) rfl
  refine ⟨h1, ⟨⟨lv', f, ms ++ [m'], sp ++ [x'], h2, by simp [hms], ?_⟩, (h3.block j (Array.getElem?_eq_some_iff.1 h.row).1 hjv hjl).trans h.row, h.hole, Nat.le_trans h.hlo h3.size, h.loj, hn, h.live1⟩, h3.fo hd⟩
  have := hd.len
  rw [List.getElem?_append_right (by omega), show n + 1 - sp.length = 0 by omega]
  rfl
theorem Jn.append (h : Jn lo W j v lim live gen last n x) (hn : n + 1 < 1000000) (i : Nat) (hi : i ≤ 1) (u : Value) (l : List Nat) (hl : Bl W u l) (hroom : (fl x i).1.length + l.length ≤ 67108864) : Calls Tryd.prog 29 #[.pointer (some ⟨v, 0, none⟩), .int .i64 (i : Int), u] W fun e w' => e = .returned (.int .i64 0) ∧ Jn lo w' j v lim live gen last (n + 1) (up x i ((fl x i).1 ++ l, (fl x i).2)) ∧ Fo lo W w' := by
  obtain ⟨lv, f, ms, sp, h1, h2, h3⟩ := h.dv
  exact (appendI h1 h.hlo x (by rw [h2]; exact h3) (by omega) i hi u l hl hroom).mono (fun e w' hp => h.did hn h1 h2 hp)
theorem Jn.sync (h : Jn lo W j v lim live gen last n x) (hn : n + 1 < 1000000) (i : Nat) (hi : i ≤ 1) : Calls Tryd.prog 30 #[.pointer (some ⟨v, 0, none⟩), .int .i64 (i : Int)] W fun e w' => e = .returned (.int .i64 0) ∧ Jn lo w' j v lim live gen last (n + 1) (up x i ((fl x i).1, (fl x i).1.length)) ∧ Fo lo W w' := by
  obtain ⟨lv, f, ms, sp, h1, h2, h3⟩ := h.dv
  exact (syncI h1 h.hlo x (by rw [h2]; exact h3) (by omega) i hi).mono (fun e w' hp => h.did hn h1 h2 hp)
theorem Jn.cut (h : Jn lo W j v lim live gen last n x) (hn : n + 1 < 1000000) (i : Nat) (hi : i ≤ 1) : Calls Tryd.prog 31 #[.pointer (some ⟨v, 0, none⟩), .int .i64 (i : Int), .int .i64 0] W fun e w' => e = .returned (.int .i64 0) ∧ Jn lo w' j v lim live gen last (n + 1) (up x i ([], 0)) ∧ Fo lo W w' := by
  obtain ⟨lv, f, ms, sp, h1, h2, h3⟩ := h.dv
  exact (cutI h1 h.hlo x (by rw [h2]; exact h3) (by omega) i hi).mono (fun e w' hp => h.did hn h1 h2 hp)
theorem Jn.size (h : Jn lo W j v lim live gen last n x) (i : Nat) (hi : i ≤ 1) : Calls Tryd.prog 49 #[.pointer (some ⟨v, 0, none⟩), .int .i64 (i : Int)] W fun e w' => e = .returned (.int .i64 ((fl x i).1.length : Int)) ∧ Below W.heap.size W w' := by
  obtain ⟨lv, f, ms, sp, h1, h2, h3⟩ := h.dv
  have := h.big
  exact sizeI h1 x (by rw [h2]; exact h3) (by omega) i hi
theorem Jn.disk (h : Jn lo W j v lim live gen last n x) : Calls Tryd.prog 27 #[.pointer (some ⟨v, 0, none⟩)] W fun e w' => ∃ c, e = .returned (.agg c) ∧ DkP W x c w' := by
  obtain ⟨lv, f, ms, sp, h1, h2, h3⟩ := h.dv
  have := h.big
  exact Disk_any h1 x (by rw [h2]; exact h3) (by omega)
theorem Jn.count (h : Jn lo W j v lim live gen last n x) : Calls Tryd.prog 9 #[.pointer (some ⟨v, 0, none⟩)] W fun e w' => e = .returned (.int .i64 (n : Int)) ∧ w' = W := by
  obtain ⟨lv, f, ms, sp, h1, h2, h3⟩ := h.dv
  subst h2
  exact count_any h1
end
end Dev
end Go.Proofs.YtfimaflglnemdaaDoor

/- The journal's rows: fits, Room, Last. -/
namespace Go.Proofs.YtfimaflglnemdaaDoor
open Go.RowKit
open JM
set_option maxRecDepth 20000
namespace Dev
section
variable [Inhabited HoleT] {lo j v lim live gen last n : Nat} {W : World} {x : Sp}
set_option maxRecDepth 100000 in
set_option maxHeartbeats 800000 in
theorem fits_any (h : Jn lo W j v lim live gen last n x) (i : Nat) (hi : i ≤ 1) (z : Nat) (hz : z ≤ 100000000) (hL : (fl x i).1.length ≤ 100000000) :
    Calls Tryd.prog 45 #[.pointer (some ⟨j, 0, none⟩), .int .i64 (i : Int), .int .i64 (z : Int)] W fun e w' => e = .returned (.bool (decide ((fl x i).1.length + z ≤ lim))) ∧ Below W.heap.size W w' := by
  have CA : Hid (∀ w', w'.cell? ⟨j, 0, none⟩ = some (.pointer (some ⟨v, 0, none⟩)) ∧ w'.cell? ⟨j, 1, none⟩ = some (.int .i64 (lim : Int)) ∧ Hid (Below W.heap.size W w') → Calls Tryd.prog 49 #[.pointer (some ⟨v, 0, none⟩), .int .i64 (i : Int)] w' fun e w1 => e = .returned (.int .i64 ((fl x i).1.length : Int)) ∧ (w1.cell? ⟨j, 0, none⟩ = some (.pointer (some ⟨v, 0, none⟩)) ∧ w1.cell? ⟨j, 1, none⟩ = some (.int .i64 (lim : Int)) ∧ Hid (Below W.heap.size W w1))) := by
    rintro w' ⟨-, -, hb⟩
    have h1 := h.below hb.out
    exact (h1.size i hi).mono (fun e w1 ⟨e1, e2⟩ => ⟨e1, (h1.below e2).c0, (h1.below e2).c1, hb.out.trans (e2.mono hb.out.size)⟩)
  have c0 := h.c0
  have c1 := h.c1
  have hb0 : Hid (Below W.heap.size W W.drew) := ⟨rfl, rfl, rfl, Nat.le_refl _, fun _ _ => rfl⟩
  obtain ⟨L, hL2⟩ : ∃ L, (fl x i).1.length = L := ⟨_, rfl⟩
  rw [hL2] at CA hL ⊢
  clear h hL2
  go_enter Tryd.func45, Tryd.ntmps45
  go_wp2_with fail
  go_region_held3 (fun w' => w'.cell? ⟨j, 0, none⟩ = some (.pointer (some ⟨v, 0, none⟩)) ∧ w'.cell? ⟨j, 1, none⟩ = some (.int .i64 (lim : Int)) ∧ Hid (Below W.heap.size W w')) (first | assumption | exact ⟨c0, c1, hb0⟩)
    (first
      | (go_at_call 49; refine Calls.mono (CA.out _ (by assumption)) ?_; rintro e w1 ⟨rfl, hS⟩))
  all_goals
    go_wp2_with fail
    go_ret
    refine ⟨?_, hS.2.2.out⟩
    show Ending.returned (Value.bool (decide (IntKind.i64.wrap ((L : Int) + (z : Int)) ≤ (lim : Int)))) = _
    rw [show IntKind.i64.wrap ((L : Int) + (z : Int)) = ((L + z : Nat) : Int) by rw [IntKind.wrap_i64]; omega]
    exact congrArg (fun b => Ending.returned (Value.bool b)) (decide_eq_decide.2 (by omega))
set_option maxRecDepth 100000 in
set_option maxHeartbeats 800000 in
theorem Room_any (h : Jn lo W j v lim live gen last n x) (hlim : lim ≤ 100000000) (hL : (fl x live).1.length ≤ 100000000) :
    Calls Tryd.prog 21 #[.pointer (some ⟨j, 0, none⟩)] W fun e w' => e = .returned (.int .i64 ((lim - (fl x live).1.length : Nat) : Int)) ∧ Below W.heap.size W w' := by
  have CA : Hid (∀ w', w'.cell? ⟨j, 0, none⟩ = some (.pointer (some ⟨v, 0, none⟩)) ∧ w'.cell? ⟨j, 1, none⟩ = some (.int .i64 (lim : Int)) ∧ w'.cell? ⟨j, 2, none⟩ = some (.int .i64 (live : Int)) ∧ Hid (Below W.heap.size W w') → Calls Tryd.prog 49 #[.pointer (some ⟨v, 0, none⟩), .int .i64 (live : Int)] w' fun e w1 => e = .returned (.int .i64 ((fl x live).1.length : Int)) ∧ (w1.cell? ⟨j, 0, none⟩ = some (.pointer (some ⟨v, 0, none⟩)) ∧ w1.cell? ⟨j, 1, none⟩ = some (.int .i64 (lim : Int)) ∧ w1.cell? ⟨j, 2, none⟩ = some (.int .i64 (live : Int)) ∧ Hid (Below W.heap.size W w1))) := by
    rintro w' ⟨-, -, -, hb⟩
    have h1 := h.below hb.out
    exact (h1.size live h.live1).mono (fun e w1 ⟨e1, e2⟩ => ⟨e1, (h1.below e2).c0, (h1.below e2).c1, (h1.below e2).c2, hb.out.trans (e2.mono hb.out.size)⟩)
  have c0 := h.c0
  have c1 := h.c1
  have c2 := h.c2
  have hb0 : Hid (Below W.heap.size W W.drew) := ⟨rfl, rfl, rfl, Nat.le_refl _, fun _ _ => rfl⟩
  obtain ⟨L, hL2⟩ : ∃ L, (fl x live).1.length = L := ⟨_, rfl⟩
  rw [hL2] at CA hL ⊢
  clear h hL2
  have e9 : Hid (IntKind.i64.wrap ((lim : Int) - (L : Int)) = (lim : Int) - (L : Int)) := by show IntKind.i64.wrap ((lim : Int) - (L : Int)) = (lim : Int) - (L : Int); rw [IntKind.wrap_i64]; omega
  go_enter Tryd.func21, Tryd.ntmps21
  go_wp2_with fail
  go_region_held3 (fun w' => w'.cell? ⟨j, 0, none⟩ = some (.pointer (some ⟨v, 0, none⟩)) ∧ w'.cell? ⟨j, 1, none⟩ = some (.int .i64 (lim : Int)) ∧ w'.cell? ⟨j, 2, none⟩ = some (.int .i64 (live : Int)) ∧ Hid (Below W.heap.size W w')) (first | assumption | exact ⟨c0, c1, c2, hb0⟩)
    (first
      | (go_at_call 49; refine Calls.mono (CA.out _ (by assumption)) ?_; rintro e w1 ⟨rfl, hS⟩))
  all_goals go_wp2_with fail
  · rw [e9.out] at h
    go_ret
    refine ⟨?_, hS.2.2.2.out⟩
    show Ending.returned (Value.int .i64 (IntKind.i64.wrap ((lim : Int) - (L : Int)))) = _
    rw [e9.out, show ((lim : Int) - (L : Int)) = ((lim - L : Nat) : Int) by omega]
  · rw [e9.out] at h
    go_ret
    refine ⟨?_, hS.2.2.2.out⟩
    show Ending.returned (Value.int .i64 0) = _
    rw [show lim - L = 0 by omega]
    rfl
set_option maxRecDepth 100000 in
theorem Last_any (h : Jn lo W j v lim live gen last n x) :
    Calls Tryd.prog 17 #[.pointer (some ⟨j, 0, none⟩)] W fun e w' => e = .returned (.int .i64 (last : Int)) ∧ w' = W := by
  have c4 := h.c4
  clear h
  go_enter Tryd.func17, Tryd.ntmps17
  go_wp2_with fail
  go_ret
  exact ⟨rfl, rfl⟩
end
end Dev
end Go.Proofs.YtfimaflglnemdaaDoor

/- The journal's rows: the law's diskOf and lists. -/
namespace Go.Proofs.YtfimaflglnemdaaDoor
open Go.RowKit
open JM
set_option maxRecDepth 20000
theorem cop_bl {w' : World} {u : Value} {l : List Nat} (hu : Bl w' u l) (hl : l.length ≤ LIM) : Calls Tryd.prog 48 #[u] w' fun e w1 => ∃ g, e = .returned (.slice (some ⟨g, 0, none⟩) l.length l.length) ∧ Ob w'.heap.size w1 (.slice (some ⟨g, 0, none⟩) l.length l.length) l ∧ Below w'.heap.size w' w1 ∧ g = w'.heap.size := by
  refine (copL_any w' u l hu hl).mono ?_
  rintro e w1 ⟨rfl, rfl⟩
  exact ⟨_, rfl, Ob.of_new w' l (by obtain ⟨_, _, _, _, _, hb, _⟩ := hu; exact hb) hl, (Below.refl _ w').alloc (Nat.le_refl _) _, rfl⟩
abbrev DoS (W : World) (b : Nat) (u0 u1 : Value) (w' : World) : Prop := w'.cell? ⟨b, 0, none⟩ = some u0 ∧ w'.cell? ⟨b, 1, none⟩ = some u1 ∧ Hid (Below W.heap.size W w' ∧ b + 2 ≤ w'.heap.size ∧ ∃ C, C.size = 2 ∧ w'.heap[b + 1]? = some (.cells C 26 (0, 0)))
theorem DoS.next {W w' w1 : World} {b : Nat} {u0 u1 : Value} (h : DoS W b u0 u1 w') (hb : Below w'.heap.size w' w1) : DoS W b u0 u1 w1 := by
  obtain ⟨h1, h2, h3, h4, C, h5, h6⟩ := h
  exact ⟨cell_below hb h1, cell_below hb h2, h3.trans (hb.mono h3.size), Nat.le_trans h4 hb.size, C, h5, (hb.block _ (Array.getElem?_eq_some_iff.1 h6).1).trans h6⟩
open Dev (stD toStD st_D results_D) in
attribute [local go_sem ↓] toStD in
set_option maxRecDepth 100000 in
set_option maxHeartbeats 3200000 in
theorem diskOf_any (W : World) {oa ob : Option Addr} {ca cb na nb : Nat} {l0 l1 : List Nat} (h0 : Bl W (.slice oa na ca) l0) (h1 : Bl W (.slice ob nb cb) l1) (hl0 : l0.length ≤ LIM) (hl1 : l1.length ≤ LIM) :
    Calls Tryd.prog 18 #[.agg #[.slice oa na ca, .slice ob nb cb]] W fun e w' => ∃ (o2 o3 : Option Addr) (c2 c3 : Nat), e = .returned (.agg #[.slice o2 l0.length c2, .slice o3 l1.length c3]) ∧ Bl w' (.slice o2 l0.length c2) l0 ∧ Bl w' (.slice o3 l1.length c3) l1 ∧ Below W.heap.size W w' := by
  obtain ⟨A, hA⟩ : ∃ A, (W.alloc (.cells #[.slice oa na ca, .slice ob nb cb] 26)).alloc (.cells #[.slice none 0 0, .slice none 0 0] 26) = A := ⟨_, rfl⟩
  have bA : Below W.heap.size W A := by rw [← hA]; exact below2 _ _ _
  have r0 : A.heap[W.heap.size]? = some (.cells #[.slice oa na ca, .slice ob nb cb] 26 (0, 0)) := by rw [← hA]; exact row2 _ _ _
  have r1 : A.heap[W.heap.size + 1]? = some (.cells #[.slice none 0 0, .slice none 0 0] 26 (0, 0)) := by rw [← hA]; exact row2n _ _ _
  have zA : A.heap.size = W.heap.size + 1 + 1 := by rw [← hA]; simp
  have hS0 : DoS W W.heap.size (.slice oa na ca) (.slice ob nb cb) A.drew := DoS.next ⟨(cell_of_row _ _ _ _ _ _ r0).trans rfl, (cell_of_row _ _ _ _ _ _ r0).trans rfl, bA, by omega, _, rfl, r1⟩ ⟨rfl, rfl, rfl, Nat.le_refl _, fun _ _ => rfl⟩
  have CA : Hid (∀ w', DoS W W.heap.size (.slice oa na ca) (.slice ob nb cb) w' → Calls Tryd.prog 48 #[.slice oa na ca] w' fun e w1 => ∃ g, e = .returned (.slice (some ⟨g, 0, none⟩) l0.length l0.length) ∧ Hid (Bl w1 (.slice (some ⟨g, 0, none⟩) l0.length l0.length) l0 ∧ W.heap.size + 2 ≤ g ∧ Below w'.heap.size w' w1) ∧ DoS W W.heap.size (.slice oa na ca) (.slice ob nb cb) w1) := fun w' h => (cop_bl (h0.below h.2.2.out.1) hl0).mono (fun e w1 ⟨g, e1, e2, e3, e4⟩ => ⟨g, e1, ⟨e2.bl, by rw [e4]; exact h.2.2.out.2.1, e3⟩, DoS.next h e3⟩)
  have CB : Hid (∀ w', DoS W W.heap.size (.slice oa na ca) (.slice ob nb cb) w' → Calls Tryd.prog 48 #[.slice ob nb cb] w' fun e w1 => ∃ g, e = .returned (.slice (some ⟨g, 0, none⟩) l1.length l1.length) ∧ Hid (Bl w1 (.slice (some ⟨g, 0, none⟩) l1.length l1.length) l1 ∧ W.heap.size + 2 ≤ g ∧ Below w'.heap.size w' w1) ∧ DoS W W.heap.size (.slice oa na ca) (.slice ob nb cb) w1) := fun w' h => (cop_bl (h1.below h.2.2.out.1) hl1).mono (fun e w1 ⟨g, e1, e2, e3, e4⟩ => ⟨g, e1, ⟨e2.bl, by rw [e4]; exact h.2.2.out.2.1, e3⟩, DoS.next h e3⟩)
  have HD : Hid (∀ w1 g1 g2, DoS W W.heap.size (.slice oa na ca) (.slice ob nb cb) w1 → W.heap.size + 2 ≤ g1 → W.heap.size + 2 ≤ g2 → Bl w1 (.slice (some ⟨g1, 0, none⟩) l0.length l0.length) l0 → Bl w1 (.slice (some ⟨g2, 0, none⟩) l1.length l1.length) l1 → (stD (.pointer (some ⟨W.heap.size + 1, 0, none⟩)) (.agg #[.slice (some ⟨g1, 0, none⟩) l0.length l0.length, .slice (some ⟨g2, 0, none⟩) l1.length l1.length])).run Tryd.prog w1 = .ok () (w1.setRow (W.heap.size + 1) #[.slice (some ⟨g1, 0, none⟩) l0.length l0.length, .slice (some ⟨g2, 0, none⟩) l1.length l1.length]) ∧ DoS W W.heap.size (.slice oa na ca) (.slice ob nb cb) (w1.setRow (W.heap.size + 1) #[.slice (some ⟨g1, 0, none⟩) l0.length l0.length, .slice (some ⟨g2, 0, none⟩) l1.length l1.length]) ∧ Hid (Bl (w1.setRow (W.heap.size + 1) #[.slice (some ⟨g1, 0, none⟩) l0.length l0.length, .slice (some ⟨g2, 0, none⟩) l1.length l1.length]) (.slice (some ⟨g1, 0, none⟩) l0.length l0.length) l0 ∧ Bl (w1.setRow (W.heap.size + 1) #[.slice (some ⟨g1, 0, none⟩) l0.length l0.length, .slice (some ⟨g2, 0, none⟩) l1.length l1.length]) (.slice (some ⟨g2, 0, none⟩) l1.length l1.length) l1 ∧ (w1.setRow (W.heap.size + 1) #[.slice (some ⟨g1, 0, none⟩) l0.length l0.length, .slice (some ⟨g2, 0, none⟩) l1.length l1.length]).heap[W.heap.size + 1]? = some (.cells #[.slice (some ⟨g1, 0, none⟩) l0.length l0.length, .slice (some ⟨g2, 0, none⟩) l1.length l1.length] 26 (0, 0)))) := by
    intro w1 g1 g2 hS q1 q2 b1 b2
    obtain ⟨e1, e2, e3, e4, C, e5, e6⟩ := hS
    have tr : ∀ {g : Nat} {l : List Nat} (R : Array Value), g ≠ W.heap.size + 1 → Bl w1 (.slice (some ⟨g, 0, none⟩) l.length l.length) l → Bl (w1.setRow (W.heap.size + 1) R) (.slice (some ⟨g, 0, none⟩) l.length l.length) l := fun {g l} R hg h => by
      obtain ⟨oa', cap', e, k1, k2, k3, k4⟩ := h
      refine ⟨oa', cap', e, k1, k2, k3, fun j u hu => ?_⟩
      obtain ⟨g', o', e1, e2, e3⟩ := k4 j u hu
      injection e with e _ _
      rw [e1] at e
      injection e with e
      injection e with ea eb
      exact ⟨g', o', e1, by rw [size_setRow]; exact e2, (World.cell?_of_block (w := w1) (a := ⟨g', o' + j, none⟩) (setRow_other _ _ _ _ (by rw [← ea]; exact hg))).trans e3⟩
    refine ⟨st_D w1 _ C _ e5 rfl (by simp [Value.oneCell']) e6, ⟨?_, ?_, ?_, ?_, _, rfl, setRow_heap _ _ _ _ _ _ e6⟩, tr _ (by omega) b1, tr _ (by omega) b2, setRow_heap _ _ _ _ _ _ e6⟩
    · exact (World.cell?_of_block (w := w1) (a := ⟨W.heap.size, 0, none⟩) (setRow_other _ _ _ _ (by show W.heap.size ≠ W.heap.size + 1; omega))).trans e1
    · exact (World.cell?_of_block (w := w1) (a := ⟨W.heap.size, 1, none⟩) (setRow_other _ _ _ _ (by show W.heap.size ≠ W.heap.size + 1; omega))).trans e2
    · exact below_setRow e3 (by omega) _
    · rw [size_setRow]; exact e4
  clear h0 h1 hl0 hl1 bA r0 r1 zA
  go_enter Tryd.func18, Tryd.ntmps18
  go_wp2_with fail
  try rw [hA]
  go_region_held3 (fun w' => w'.cell? ⟨W.heap.size, 0, none⟩ = some (.slice oa na ca) ∧ w'.cell? ⟨W.heap.size, 1, none⟩ = some (.slice ob nb cb) ∧ Hid (Below W.heap.size W w' ∧ W.heap.size + 2 ≤ w'.heap.size ∧ ∃ C, C.size = 2 ∧ w'.heap[W.heap.size + 1]? = some (.cells C 26 (0, 0)))) (first | assumption | exact hS0 | exact hS2 | exact hS1)
    (first
      | (go_at_call 48; with_reducible refine Calls.mono (CA.out _ ?_) ?_; assumption; rintro e w1 ⟨g1, rfl, ho1, hS1⟩)
      | (go_at_call 48; with_reducible refine Calls.mono (CB.out _ ?_) ?_; assumption; rintro e w2 ⟨g2, rfl, ho2, hS2⟩; have st := HD.out w2 g1 g2 hS2 ho1.out.2.1 ho2.out.2.1 (ho1.out.1.below ho2.out.2.2) ho2.out.1; obtain ⟨st1, hS3, st3⟩ := st))
  all_goals
    go_wp2_with fail
    refine bodyPost_ret (results_D rfl _ _ (W.heap.size + 1) _ rfl rfl st3.out.2.2) rfl ?_
    exact ⟨_, _, _, _, rfl, st3.out.1, st3.out.2.1, hS3.2.2.out.1⟩
/-- A list of lists in the making: the first i are there. -/
def Mk (W : World) (B i n : Nat) (ls : List (List Nat)) (wr : World) : Prop := ∃ vs : List Value, vs.length = i ∧ wr.heap[B]? = some (.cells (vs ++ List.replicate (n - i) (Value.slice none 0 0)).toArray 23 (0, 0)) ∧ (∀ (k : Nat) (l : List Nat), (ls.take i)[k]? = some l → ∃ x : Value, vs[k]? = some x ∧ Ob (B + 1) wr x l) ∧ Below W.heap.size W wr
theorem made_rep (z : Value) (n : Nat) : madeCells #[z] n = (List.replicate n z).toArray := by
  apply Array.ext
  · simp [madeCells]
  · intro i h1 h2
    simp [madeCells, Nat.mod_one]
theorem Mk.cell {W wr : World} {B i n : Nat} {ls : List (List Nat)} (h : Mk W B i n ls wr) (hi : i < n) : wr.cell? ⟨B, i, none⟩ = some (.slice none 0 0) ∧ wr.frozen? ⟨B, i, none⟩ = false := by
  obtain ⟨vs, h1, h2, h3, h4⟩ := h
  refine ⟨(cell_of_row _ _ _ _ _ _ h2).trans ?_, frozen_of_row _ _ _ _ _ h2⟩
  rw [List.getElem?_toArray, List.getElem?_append_right (by omega), h1, Nat.sub_self, List.getElem?_replicate, if_pos (by omega)]
theorem Mk.below {W wr w' : World} {B i n : Nat} {ls : List (List Nat)} (h : Mk W B i n ls wr) (hb : Below wr.heap.size wr w') : Mk W B i n ls w' := by
  obtain ⟨vs, h1, h2, h3, h4⟩ := h
  refine ⟨vs, h1, (hb.block _ (Array.getElem?_eq_some_iff.1 h2).1).trans h2, fun k l hl => ?_, h4.trans (hb.mono h4.size)⟩
  obtain ⟨x, q1, q2⟩ := h3 k l hl
  exact ⟨x, q1, q2.keep (fun k c _ hc => hb.block k (Array.getElem?_eq_some_iff.1 hc).1)⟩
theorem Mk.put {W wr : World} {B i n : Nat} {ls : List (List Nat)} (h : Mk W B i n ls wr) (hi : i < ls.length) (hn : i < n) (hB : W.heap.size ≤ B) {x : Value} (hx : Ob (B + 1) wr x ls[i]) : Mk W B (i + 1) n ls (wr.setCell ⟨B, i, none⟩ x) := by
  obtain ⟨vs, h1, h2, h3, h4⟩ := h
  have hs : (vs ++ List.replicate (n - i) (Value.slice none 0 0)).toArray.setIfInBounds i x = ((vs ++ [x]) ++ List.replicate (n - (i + 1)) (Value.slice none 0 0)).toArray := by
    rw [List.setIfInBounds_toArray, List.set_append_right _ _ (by omega), h1, Nat.sub_self, show n - i = (n - (i + 1)) + 1 by omega, List.replicate_succ, List.set_cons_zero, List.append_assoc]
    rfl
  rw [setCell_eq_setRow wr B i _ _ _ _ h2, hs]
  have kp : ∀ {y : Value} {l : List Nat}, Ob (B + 1) wr y l → Ob (B + 1) (wr.setRow B ((vs ++ [x]) ++ List.replicate (n - (i + 1)) (Value.slice none 0 0)).toArray) y l := fun h => h.keep (fun k c hk hc => setRow_other _ _ _ _ (by omega))
  refine ⟨vs ++ [x], by simp [h1], setRow_heap _ _ _ _ _ _ h2, fun k l hl => ?_, below_setRow h4 hB _⟩
  rcases Nat.lt_or_ge k i with hk | hk
  · obtain ⟨y, q1, q2⟩ := h3 k l (by rw [List.getElem?_take, if_pos (by omega)] at hl; rw [List.getElem?_take, if_pos hk]; exact hl)
    exact ⟨y, by rw [List.getElem?_append_left (by omega)]; exact q1, kp q2⟩
  · have hk2 : k = i := by
      have := (List.getElem?_eq_some_iff.1 hl).1
      rw [List.length_take] at this
      omega
    subst hk2
    rw [List.getElem?_take, if_pos (by omega), List.getElem?_eq_getElem hi] at hl
    injection hl with hl
    subst hl
    exact ⟨x, by rw [List.getElem?_append_right (by omega), h1, Nat.sub_self]; rfl, kp hx⟩
theorem Mk.ll {W wr : World} {B : Nat} {ls : List (List Nat)} (h : Mk W B ls.length ls.length ls wr) (hB : W.heap.size ≤ B) (hl : ls.length ≤ 1000000) : Ll W.heap.size wr (.slice (some ⟨B, 0, none⟩) ls.length ls.length) ls := by
  obtain ⟨vs, h1, h2, h3, h4⟩ := h
  rw [Nat.sub_self, List.replicate_zero, List.append_nil] at h2
  refine ⟨vs, ⟨by rw [h1, Nat.mul_one], .inr ⟨B, ls.length, _, rfl, hB, h2, Nat.le_refl _, by unfold maxLen; omega, by simp [h1], by rw [List.take_of_length_le (by simp; omega)]⟩⟩, fun k l hl => ?_⟩
  obtain ⟨x, q1, q2⟩ := h3 k l (by rw [List.take_length]; exact hl)
  exact ⟨x, q1, q2.mono (by omega)⟩
set_option maxRecDepth 100000 in
set_option maxHeartbeats 1600000 in
theorem lists_any {u : Value} {ls : List (List Nat)} (W : World) (hu : Lr W u ls) (hlim : ∀ x ∈ ls, x.length ≤ LIM) (hn : ls.length ≤ 1000000) :
    Calls Tryd.prog 24 #[u] W fun e w' => ∃ v, e = .returned v ∧ Ll W.heap.size w' v ls ∧ Below W.heap.size W w' := by
  obtain ⟨oa, cap, rfl⟩ := hu.sl
  have hmk := run_make_row' (P := Tryd.prog) 27 23 (.slice none 0 0) 24 Tryd.underlying27 infoBs rfl .i64 .i64 ls.length (by omega) (by omega)
  have HU := mkHid (And.intro hu hlim)
  clear hu hlim
  obtain ⟨W1, hW1⟩ : ∃ W1, W.alloc (.cells (madeCells #[.slice none 0 0] ls.length) 23) = W1 := ⟨_, rfl⟩
  have HM : Hid (Mk W W.heap.size 0 ls.length ls W1) := by
    rw [← hW1, made_rep]
    exact ⟨[], rfl, heap_alloc_new _ _, fun k l hl => by simp at hl, (Below.refl _ W).alloc (Nat.le_refl _) _⟩
  have HW : Hid (W.alloc (.cells (madeCells #[.slice none 0 0] ls.length) 23) = W1) := hW1
  clear hW1
  go_enter Tryd.func24, Tryd.ntmps24
  go_wp2_with fail
  rw [HW.out]
  go_loopw [4] (fun iv wr => ∃ i : Nat, iv = .int .i64 (i : Int) ∧ i ≤ ls.length ∧ Hid (Mk W W.heap.size i ls.length ls wr)) (fun iv _ => ls.length - (intOf iv).toNat)
  case atStart => exact ⟨0, rfl, Nat.zero_le _, HM⟩
  case round =>
    obtain ⟨i, rfl, hi, HI⟩ := hrel
    by_cases hlt : i < ls.length
    · have hlt2 : (i : Int) < (ls.length : Int) := by omega
      have hi0 : (0 : Int) ≤ (i : Int) := by omega
      obtain ⟨oa', cap', e0, -, -, h4⟩ := HU.out.1
      injection e0 with e0 el ec
      clear el
      subst e0 ec
      obtain ⟨g, o, x, rfl, c1, b1⟩ := h4 i hlt
      have bw : Below W.heap.size W wr := let ⟨_, _, _, _, h⟩ := HI.out; h
      have hz : W.heap.size < wr.heap.size := let ⟨_, _, h, _, _⟩ := HI.out; (Array.getElem?_eq_some_iff.1 h).1
      have c2 := cell_below bw c1
      have C := cop_bl (b1.below bw) (HU.out.2 ls[i] (List.getElem_mem hlt))
      have HZ := mkHid (And.intro bw hz)
      clear h4 b1 c1 bw hz
      go_wp2_with fail
      refine C.mono ?_
      rintro e w1 ⟨g1, rfl, ho, hb, hg⟩
      clear C
      have M1 := HI.out.below hb
      obtain ⟨k1, k2⟩ := M1.cell hlt
      have M2 := M1.put hlt hlt (Nat.le_refl _) (ho.mono HZ.out.2)
      obtain ⟨Z, hZ⟩ : ∃ Z, w1.setCell ⟨W.heap.size, i, none⟩ (.slice (some ⟨g1, 0, none⟩) ls[i].length ls[i].length) = Z := ⟨_, rfl⟩
      rw [hZ] at M2
      replace M2 := mkHid M2
      clear M1 ho hb hg
      go_wp2_with fail
      exact ⟨⟨i + 1, by simp, by omega, M2⟩, by simp only [intOf]; omega⟩
    · have hlt2 : ¬ (i : Int) < (ls.length : Int) := by omega
      have : i = ls.length := by omega
      subst this
      go_wp2_with fail
      go_ret
      exact ⟨_, rfl, HI.out.ll (Nat.le_refl _) hn, let ⟨_, _, _, _, h⟩ := HI.out; h⟩
end Go.Proofs.YtfimaflglnemdaaDoor
