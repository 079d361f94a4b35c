/- The journal's device: contents as they lie. -/
import Derived.Test.YtdiflmckjpmngaaChecked
import Derived.WalkKit
import Derived.RowKitTokens
import Derived.Deep.MidRow
import Derived.Maps.AppendAt
import Derived.Laws.CopyRow
import Derived.Laws.OwnMore
namespace Go.Proofs.Ytdiflmckjpmngaa
open Go.RowKit
def bs (l : List Nat) : List Value := l.map fun (n : Nat) => Value.int .u8 (n : Int)
def Byt (l : List Nat) : Prop := ∀ x ∈ l, x < 256
theorem bs_len (l : List Nat) : (bs l).length = l.length := by simp [bs]
theorem bs_app (a b : List Nat) : bs (a ++ b) = bs a ++ bs b := by simp [bs]
theorem bs_take (a : List Nat) (k : Nat) : bs (a.take k) = (bs a).take k := by simp [bs, List.map_take]
theorem bs_one (l : List Nat) : ∀ u ∈ bs l, u.oneCell' = true := fun u hu => by
  obtain ⟨x, _, rfl⟩ := List.mem_map.1 hu
  rfl
/-- Bytes as they lie. -/
def Bl (W : World) (v : Value) (l : List Nat) : Prop :=
  ∃ oa cap, v = .slice oa l.length cap ∧ l.length ≤ cap ∧ cap ≤ maxLen ∧ Byt l ∧ ∀ (j : Nat) u, (bs l)[j]? = some u → ∃ g o, oa = some ⟨g, o, none⟩ ∧ g < W.heap.size ∧ W.cell? ⟨g, o + j, none⟩ = some u
theorem Bl.below {W W' : World} {v : Value} {l : List Nat} (h : Bl W v l) (hb : Below W.heap.size W W') : Bl W' v l := by
  obtain ⟨oa, cap, h1, h2, h3, h4, h5⟩ := h
  refine ⟨oa, cap, h1, h2, h3, h4, fun j u hu => ?_⟩
  obtain ⟨g, o, e1, e2, e3⟩ := h5 j u hu
  exact ⟨g, o, e1, Nat.lt_of_lt_of_le e2 hb.size, (World.cell?_of_block (w := W) (a := ⟨g, o + j, none⟩) (hb.block g e2)).trans e3⟩
/-- A row of chunks. -/
inductive Ch (Q : Nat → Prop) (W : World) : Option Addr → List Nat → Prop
  | nil : Ch Q W none []
  | cons (g b cap k : Nat) (ah : Option Addr) (pre D : List Nat) : Q g → Q b → W.heap[g]? = some (.cells #[.pointer ah, .int .i64 (pre.length : Int), .slice (some ⟨b, 0, none⟩) D.length cap] 71 (0, 0)) → D.length ≤ cap → cap ≤ maxLen →
      (∀ (j : Nat) u, (bs D)[j]? = some u → W.cell? ⟨b, j, none⟩ = some u) → Byt D → 0 < k → k ≤ D.length → Ch Q W ah pre → Ch Q W (some ⟨g, 0, none⟩) (pre ++ D.take k)
theorem Ch.keep {Q Q' : Nat → Prop} {W W' : World} (hb : ∀ j, Q j → W'.heap[j]? = W.heap[j]?) (hq : ∀ j, Q j → Q' j) {p : Option Addr} {d : List Nat} (h : Ch Q W p d) : Ch Q' W' p d := by
  induction h with
  | nil => exact .nil
  | cons g b cap k ah pre D h1 h2 h3 h4 h5 h6 h7 h8 h9 _ ih => exact .cons g b cap k ah pre D (hq g h1) (hq b h2) ((hb g h1).trans h3) h4 h5 (fun j u hu => (World.cell?_of_block (w := W) (a := ⟨b, j, none⟩) (hb b h2)).trans (h6 j u hu)) h7 h8 h9 ih
theorem Ch.byt {Q : Nat → Prop} {W : World} {p : Option Addr} {d : List Nat} (h : Ch Q W p d) : Byt d := by
  induction h with
  | nil => intro x hx; cases hx
  | cons g b cap k ah pre D h1 h2 h3 h4 h5 h6 h7 h8 h9 _ ih =>
    intro x hx
    rcases List.mem_append.1 hx with h | h
    · exact ih x h
    · exact h7 x (List.mem_of_mem_take h)
def LIM : Nat := 100000000000000
def cnA (p : Option Addr) (n s : Nat) : Array Value := #[.pointer p, .int .i64 (n : Int), .int .i64 (s : Int)]
/-- What a file holds, as it lies. -/
def Cn (Q : Nat → Prop) (W : World) (c : Array Value) (d : List Nat) (s : Nat) : Prop := ∃ p, c = cnA p d.length s ∧ Ch Q W p d ∧ s ≤ d.length ∧ d.length ≤ LIM
theorem Cn.keep {Q Q' : Nat → Prop} {W W' : World} (hb : ∀ j, Q j → W'.heap[j]? = W.heap[j]?) (hq : ∀ j, Q j → Q' j) {c : Array Value} {d : List Nat} {s : Nat} (h : Cn Q W c d s) : Cn Q' W' c d s := by
  obtain ⟨p, h1, h2, h3⟩ := h
  exact ⟨p, h1, h2.keep hb hq, h3⟩
theorem sizeC : (Try.prog.info? 50).map (·.size) = some 3 := by kernel_rfl
def ldC (p : Value) : Sem Value := Instr.loadAt 50 p
theorem toLdC (p : Value) : Instr.loadAt 50 p = ldC p := rfl
def stC (p v : Value) : Sem Unit := Instr.storeAt 50 p v
theorem toStC (p v : Value) : Instr.storeAt 50 p v = stC p v := rfl
theorem ld_C (w : World) (g o : Nat) (c : Array Value) (hc : c.size = 3) (h : w.rangeAt g o c.toList) : (ldC (.pointer (some ⟨g, o, none⟩))).run Try.prog w = .ok (.agg c) w := by
  have := run_loadAt_mid (P := Try.prog) w g o 50 c.toList _ h Try.underlying50 rfl (by rw [sizeC]; simp [hc])
  simpa [ldC] using this
theorem ld_Crow (w : World) (g : Nat) (c : Array Value) (hc : c.size = 3) (h : w.heap[g]? = some (.cells c 50 (0, 0))) : (ldC (.pointer (some ⟨g, 0, none⟩))).run Try.prog w = .ok (.agg c) w := by
  refine ld_C w g 0 c hc ?_
  have := World.rangeAt_of_block h 0 3
  rwa [show c.extract 0 (0 + 3) = c by rw [← hc, Nat.zero_add]; simp] at this
theorem st_C (w : World) (g : Nat) (C D : Array Value) (hC : C.size = 3) (hD : D.size = 3) (h1 : D.all (·.oneCell') = true) (hg : w.heap[g]? = some (.cells C 50 (0, 0))) : (stC (.pointer (some ⟨g, 0, none⟩)) (.agg D)).run Try.prog w = .ok () (w.setRow g D) := by
  unfold stC
  simp only [Instr.storeAt, Instr.sureAddr, Sem.run_bind, Sem.run_pure, Result.andThen_ok, run_storeVar_row w g 50 50 C D hg (by rw [sizeC, hD]) (by rw [hD, hC]) h1]
theorem results_C {fn : Func} {p : Tmp} (h : fn.results = #[.cell p 50]) (tmps : Array Value) (w : World) (g : Nat) (C : Array Value) (hC : C.size = 3)
    (hp : tmps.getD p undef = .pointer (some ⟨g, 0, none⟩)) (hg : w.heap[g]? = some (.cells C 50 (0, 0))) :
    (results fn tmps).run Try.prog w = .ok (.agg C) w := by
  have hp' : tmps[p]?.getD undef = .pointer (some ⟨g, 0, none⟩) := by simpa using hp
  simp [results, h, hp', asAddr, run_loadVar_row w g 50 50 C (0, 0) _ hg Try.underlying50 rfl (by rw [sizeC, hC])]
theorem results_Ct {fn : Func} {p u : Tmp} (h : fn.results = #[.cell p 50, .tmp u]) (tmps : Array Value) (w : World) (g : Nat) (C : Array Value) (hC : C.size = 3)
    (hp : tmps.getD p undef = .pointer (some ⟨g, 0, none⟩)) (hg : w.heap[g]? = some (.cells C 50 (0, 0))) :
    (results fn tmps).run Try.prog w = .ok (.tuple #[.agg C, tmps.getD u undef]) w := by
  have hp' : tmps[p]?.getD undef = .pointer (some ⟨g, 0, none⟩) := by simpa using hp
  simp [results, h, hp', asAddr, run_loadVar_row w g 50 50 C (0, 0) _ hg Try.underlying50 rfl (by rw [sizeC, hC])]
def zC : Array Value := #[.pointer none, .int .i64 0, .int .i64 0]
def apB (ty : Nat) (vs : Array Value) : Sem Value := Builtin.append_ #[25, 25] ty vs
theorem toApB (ty : Nat) (vs : Array Value) : Builtin.append_ #[25, 25] ty vs = apB ty vs := rfl
theorem info5 : (Try.prog.info? 5).map (fun i => (i.zero, i.size, i.bytes)) = some (some (.int .u8 0), 1, 1) := by kernel_rfl
theorem info_parts {P : Program} {e : TypeId} {z : Option Value} {s b : Nat} (h : (P.info? e).map (fun i => (i.zero, i.size, i.bytes)) = some (z, s, b)) : ∃ i, P.info? e = some i ∧ i.zero = z ∧ i.size = s ∧ i.bytes = b := by
  cases hq : P.info? e with
  | none => simp [hq] at h
  | some i =>
    rw [hq] at h
    simp only [Option.map_some, Option.some.injEq, Prod.mk.injEq] at h
    exact ⟨i, rfl, h.1, h.2.1, h.2.2⟩
/-- Bytes behind bytes of one's own. -/
theorem run_apB1 (w : World) (base n : Nat) (v u : Value) (xs : List Value) (l : List Nat) (hown : w.ownsRow base 5 1 v n xs) (hl : Bl w u l) (hb : n + l.length ≤ 2 * LIM / 2) (hpos : 0 < l.length) (hbase : base ≤ w.heap.size) :
    ∃ v' w', (apB 25 #[v, u]).run Try.prog w = .ok v' w' ∧ w'.ownsRow base 5 1 v' (n + l.length) (xs ++ bs l) ∧ w.grownBy w' v.ownBlock ∧ (v'.ownBlock = v.ownBlock ∨ v'.ownBlock = some w.heap.size) := by
  obtain ⟨i0, hi0, hz0, hz1, hz2⟩ := info_parts info5
  obtain ⟨oa, cap, rfl, h2, h3, h4, h5⟩ := hl
  obtain ⟨u0, hu0⟩ : ∃ u0, (bs l)[0]? = some u0 := ⟨_, List.getElem?_eq_getElem (by rw [bs_len]; exact hpos)⟩
  obtain ⟨g, o, rfl, -, -⟩ := h5 0 u0 hu0
  unfold LIM at hb
  obtain ⟨v', w', hr, ho, hg, -, hat⟩ := run_append_own_at (P := Try.prog) w base 25 25 5 i0 _ 1 1 Try.underlying25 hi0 hz0 hz1 hz2 rfl (by omega) v n xs hown ⟨g, o, none⟩ l.length cap (bs l) (by rw [bs_len]; omega) (fun j u hu => by
    obtain ⟨g', o', e1, e2, e3⟩ := h5 j u hu
    cases e1
    rw [Addr.add_mid]
    exact e3) (bs_one l) (by unfold maxLen; omega) (by omega) hbase
  exact ⟨v', w', hr, ho, hg, hat⟩
end Go.Proofs.Ytdiflmckjpmngaa
