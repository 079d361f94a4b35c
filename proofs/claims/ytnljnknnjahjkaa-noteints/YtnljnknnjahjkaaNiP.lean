/- NoteInts: (*Copy).deep. -/
import Derived.Test.YtnljnknnjahjkaaNiD
import Derived.Maps.AppendAt
namespace Go.Proofs.Ytnljnknnjahjkaa
open Go.RowKit
/-- One block is written, others stay. -/
structure Tch (g : Nat) (w w' : World) : Prop where
  os : w'.os = w.os
  tape : w'.tape = w.tape
  output : w'.output = w.output
  size : w.heap.size ≤ w'.heap.size
  block : ∀ j, j < w.heap.size → j ≠ g → w'.heap[j]? = w.heap[j]?
theorem Tch.refl (g : Nat) (w : World) : Tch g w w := ⟨rfl, rfl, rfl, Nat.le_refl _, fun _ _ _ => rfl⟩
theorem Tch.trans {g : Nat} {a b c : World} (h : Tch g a b) (h2 : Tch g b c) : Tch g a c :=
  ⟨h2.os.trans h.os, h2.tape.trans h.tape, h2.output.trans h.output, Nat.le_trans h.size h2.size, fun j hj hn => (h2.block j (Nat.lt_of_lt_of_le hj h.size) hn).trans (h.block j hj hn)⟩
theorem Tch.of_below {g : Nat} {a b : World} (h : Below a.heap.size a b) : Tch g a b := ⟨h.os, h.tape, h.output, h.size, fun j hj _ => h.block j hj⟩
def isSl (v : Value) : Prop := ∃ oa n c, v = .slice oa n c
/-- What deep answers. -/
def DpP (B k cb : Nat) (lf : Int) (c : Array Value) (W : World) (e : Ending) (w' : World) : Prop :=
  ∃ kd b x s L F L' F' q, c = noteA kd b x s L F ∧ isSl L' ∧ isSl F' ∧ e = .returned (.agg (noteA kd b x s L' F')) ∧ w'.heap[cb]? = some (.cells #[.int .i64 q] 35 (0, 0)) ∧ q < lf ∧ -1 ≤ q ∧ Tch cb W w' ∧
    (0 ≤ q → Tw B (fun g => W.heap.size ≤ g ∧ g < w'.heap.size) w' k (noteA kd b x s L' F') c)
def storeN (p v : Value) : Sem Unit := Instr.storeAt 26 p v
theorem toStN (p v : Value) : Instr.storeAt 26 p v = storeN p v := rfl
theorem st_N (w : World) (g : Nat) (C D : Array Value) (hC : C.size = 6) (hD : D.size = 6) (h1 : D.all (·.oneCell') = true) (hg : w.heap[g]? = some (.cells C 26 (0, 0))) : (storeN (.pointer (some ⟨g, 0, none⟩)) (.agg D)).run Try.prog w = .ok () (w.setRow g D) := by
  unfold storeN
  simp only [Instr.storeAt, Instr.sureAddr, Sem.run_bind, Sem.run_pure, Result.andThen_ok, run_storeVar_row w g 26 26 C D hg (by rw [sizeN, hD]) (by rw [hD, hC]) h1]
theorem results_N {fn : Func} {p : Tmp} (h : fn.results = #[.cell p 26]) (tmps : Array Value) (w : World) (g : Nat) (C : Array Value) (hC : C.size = 6)
    (hp : tmps.getD p undef = .pointer (some ⟨g, 0, none⟩)) (hg : w.heap[g]? = some (.cells C 26 (0, 0))) :
    (results fn tmps).run Try.prog w = .ok (.agg C) w := by
  have hp' : tmps[p]?.getD undef = .pointer (some ⟨g, 0, none⟩) := by simpa using hp
  simp [results, h, hp', asAddr, run_loadVar_row w g 26 26 C (0, 0) _ hg Try.underlying26 rfl (by rw [sizeN, hC])]
/-- Notes as cells. -/
def flat (l : List (Array Value)) : List Value := l.flatMap (·.toList)
theorem flat_app (a b : List (Array Value)) : flat (a ++ b) = flat a ++ flat b := by simp [flat]
theorem note_one (kd : Int) (b : Bool) (x : Nat) (s : ByteArray) (L F : Value) (hL : isSl L) (hF : isSl F) : (noteA kd b x s L F).all (·.oneCell') = true := by
  obtain ⟨_, _, _, rfl⟩ := hL
  obtain ⟨_, _, _, rfl⟩ := hF
  simp [noteA, Value.oneCell']
theorem info_parts {P : Program} {e : TypeId} {z : Option Value} {s b : Nat} (h : (P.info? e).map (fun i => (i.zero, i.size, i.bytes)) = some (z, s, b)) : ∃ i, P.info? e = some i ∧ i.zero = z ∧ i.size = s ∧ i.bytes = b := by
  cases hq : P.info? e with
  | none => simp [hq] at h
  | some i =>
    rw [hq] at h
    simp only [Option.map_some, Option.some.injEq, Prod.mk.injEq] at h
    exact ⟨i, rfl, h.1, h.2.1, h.2.2⟩
theorem infoN : (Try.prog.info? 26).map (fun i => (i.zero, i.size, i.bytes)) = some (some (.agg #[.int .i64 0, .bool false, .float .f64 0, .string ⟨#[]⟩, .slice none 0 0, .slice none 0 0]), 6, 88) := by kernel_rfl
theorem infoF : (Try.prog.info? 39).map (fun i => (i.zero, i.size, i.bytes)) = some (some (.agg #[.string ⟨#[]⟩, .int .i64 0, .bool false, .float .f64 0, .string ⟨#[]⟩, .slice none 0 0, .slice none 0 0]), 7, 104) := by kernel_rfl
def apN (ty : Nat) (vs : Array Value) : Sem Value := Builtin.append_ #[23, 23] ty vs
theorem toApN (ty : Nat) (vs : Array Value) : Builtin.append_ #[23, 23] ty vs = apN ty vs := rfl
def apF (ty : Nat) (vs : Array Value) : Sem Value := Builtin.append_ #[24, 24] ty vs
theorem toApF (ty : Nat) (vs : Array Value) : Builtin.append_ #[24, 24] ty vs = apF ty vs := rfl
theorem cells_new (w : World) (t : Array Value) (ty : TypeId) (j : Nat) (u : Value) (hu : t.toList[j]? = some u) : (w.alloc (.cells t ty)).cell? ((⟨w.heap.size, 0, none⟩ : Addr).add j) = some u := by
  rw [Addr.add_mid, Nat.zero_add, cell_of_row _ _ _ _ _ _ (heap_alloc_new w (.cells t ty)), ← Array.getElem?_toList]
  exact hu
/-- One note more. -/
theorem run_apN1 (w : World) (base n ty : Nat) (v : Value) (ls : List (Array Value)) (t : Array Value) (hown : w.ownsRow base 26 6 v n (flat ls)) (ht : t.size = 6) (h1 : t.all (·.oneCell') = true) (hb : n + 1 ≤ 1000000) (hbase : base ≤ w.heap.size) :
    ∃ v' w', (apN ty #[v, .slice (some ⟨w.heap.size, 0, none⟩) 1 1]).run Try.prog (w.alloc (.cells t 26)) = .ok v' w' ∧ w'.ownsRow base 26 6 v' (n + 1) (flat (ls ++ [t])) ∧ (w.alloc (.cells t 26)).grownBy w' v.ownBlock ∧ (v'.ownBlock = v.ownBlock ∨ v'.ownBlock = some (w.heap.size + 1)) := by
  obtain ⟨i0, hi0, hz0, hz1, hz2⟩ := info_parts infoN
  obtain ⟨v', w', hr, ho, hg, _, hat⟩ := run_append_own_at (P := Try.prog) (w.alloc (.cells t 26)) base 23 ty 26 i0 _ 6 88 Try.underlying23 hi0 hz0 hz1 hz2 rfl (by omega) v n _ (hown.alloc _) ⟨w.heap.size, 0, none⟩ 1 1 t.toList (by simp [ht]) (fun j u hu => cells_new w t _ j u hu) (fun u hu => by
      have := Array.all_eq_true_iff_forall_mem.1 h1 u (by simpa using hu)
      exact this) (by unfold maxLen; omega) (by omega) (by simp; omega)
  refine ⟨v', w', hr, ?_, hg, ?_⟩
  · rw [flat_app, show flat [t] = t.toList by simp [flat]]
    exact ho
  · simpa using hat
theorem run_apF1 (w : World) (base n ty : Nat) (v : Value) (ls : List (Array Value)) (t : Array Value) (hown : w.ownsRow base 39 7 v n (flat ls)) (ht : t.size = 7) (h1 : t.all (·.oneCell') = true) (hb : n + 1 ≤ 1000000) (hbase : base ≤ w.heap.size) :
    ∃ v' w', (apF ty #[v, .slice (some ⟨w.heap.size, 0, none⟩) 1 1]).run Try.prog (w.alloc (.cells t 39)) = .ok v' w' ∧ w'.ownsRow base 39 7 v' (n + 1) (flat (ls ++ [t])) ∧ (w.alloc (.cells t 39)).grownBy w' v.ownBlock ∧ (v'.ownBlock = v.ownBlock ∨ v'.ownBlock = some (w.heap.size + 1)) := by
  obtain ⟨i0, hi0, hz0, hz1, hz2⟩ := info_parts infoF
  obtain ⟨v', w', hr, ho, hg, _, hat⟩ := run_append_own_at (P := Try.prog) (w.alloc (.cells t 39)) base 24 ty 39 i0 _ 7 104 Try.underlying24 hi0 hz0 hz1 hz2 rfl (by omega) v n _ (hown.alloc _) ⟨w.heap.size, 0, none⟩ 1 1 t.toList (by simp [ht]) (fun j u hu => cells_new w t _ j u hu) (fun u hu => by
      have := Array.all_eq_true_iff_forall_mem.1 h1 u (by simpa using hu)
      exact this) (by unfold maxLen; omega) (by omega) (by simp; omega)
  refine ⟨v', w', hr, ?_, hg, ?_⟩
  · rw [flat_app, show flat [t] = t.toList by simp [flat]]
    exact ho
  · simpa using hat
theorem flat_at {sz : Nat} : ∀ {ls : List (Array Value)}, (∀ c ∈ ls, c.size = sz) → ∀ (i : Nat) c, ls[i]? = some c → ∀ (j : Nat) v, c.toList[j]? = some v → (flat ls)[i * sz + j]? = some v
  | [], _, i, c, h, _, _, _ => by simp at h
  | a :: l, hz, 0, c, h, j, v, hv => by
    obtain rfl : a = c := by simpa using h
    have hj : j < a.toList.length := (List.getElem?_eq_some_iff.1 hv).1
    show (a.toList ++ flat l)[0 * sz + j]? = _
    rw [Nat.zero_mul, Nat.zero_add, List.getElem?_append_left hj]
    exact hv
  | a :: l, hz, i + 1, c, h, j, v, hv => by
    have := flat_at (sz := sz) (ls := l) (fun c hc => hz c (List.mem_cons_of_mem _ hc)) i c (by simpa using h) j v hv
    have ha : a.toList.length = sz := by rw [Array.length_toList]; exact hz a List.mem_cons_self
    show (a.toList ++ flat l)[(i + 1) * sz + j]? = _
    rw [List.getElem?_append_right (by rw [ha, Nat.add_mul]; omega), ha, show (i + 1) * sz + j - sz = i * sz + j by rw [Nat.add_mul]; omega]
    exact this
/-- What lies in a list of one's own. -/
theorem own_at {W : World} {base e sz n : Nat} {v : Value} {ls : List (Array Value)} (h : W.ownsRow base e sz v n (flat ls)) {g : Nat} (hg : v.ownBlock = some g) (hz : ∀ c ∈ ls, c.size = sz) (i : Nat) (c : Array Value) (hc : ls[i]? = some c) : W.rangeAt g (i * sz) c.toList := fun j u hu => by
  have := h.cells hg _ u (flat_at hz i c hc j u hu)
  rwa [Addr.add_mid, Nat.zero_add] at this
end Go.Proofs.Ytnljnknnjahjkaa
