/- NoteInts: notes as they lie, and twins. -/
import Derived.Test.YtnljnknnjahjkaaNiI
import Derived.Deep.MidRow
import Derived.Maps.AppendAt
namespace Go.Proofs.Ytnljnknnjahjkaa
open Go.RowKit
/-- A slice of rows as it lies, in blocks below B. -/
def Rd (B : Nat) (W : World) (sz : Nat) (v : Value) (l : List (Array Value)) : Prop :=
  ∃ oa cap, v = .slice oa l.length cap ∧ l.length ≤ cap ∧ cap ≤ maxLen ∧ ∀ (i : Nat) c, l[i]? = some c → ∃ g o, oa = some ⟨g, o, none⟩ ∧ g < B ∧ c.size = sz ∧ W.rangeAt g (o + i * sz) c.toList
/-- A slice of rows with a mark behind it. -/
def RdM (Q : Nat → Prop) (W : World) (sz : Nat) (v : Value) (l : List (Array Value)) (mk : Value) : Prop :=
  ∃ g cap, v = .slice (some ⟨g, 0, none⟩) l.length cap ∧ l.length + 1 ≤ cap ∧ cap ≤ maxLen ∧ Q g ∧ (∀ (i : Nat) c, l[i]? = some c → c.size = sz ∧ W.rangeAt g (i * sz) c.toList) ∧ W.cell? ⟨g, l.length * sz, none⟩ = some mk
def mkS : ByteArray := ⟨#[109, 97, 114, 107]⟩
/-- A note. -/
def Nt (B : Nat) (W : World) : Nat → Array Value → Prop
  | 0, _ => False
  | k + 1, c => ∃ kd b x s L F ln lf, c = noteA kd b x s L F ∧ Rd B W 6 L ln ∧ Rd B W 7 F lf ∧ (∀ a ∈ ln, Nt B W k a) ∧ ∀ a ∈ lf, ∃ s r, a = #[.string s] ++ r ∧ Nt B W k r
/-- A twin. -/
def Tw (B : Nat) (Q : Nat → Prop) (W : World) : Nat → Array Value → Array Value → Prop
  | 0, _, _ => False
  | k + 1, t, c => ∃ kd b x s L F L' F' ln lf lt ft, c = noteA kd b x s L F ∧ t = noteA kd b x s L' F' ∧ Rd B W 6 L ln ∧ Rd B W 7 F lf ∧ RdM Q W 6 L' lt (.int .i64 99) ∧ RdM Q W 7 F' ft (.string mkS) ∧
      lt.length = ln.length ∧ ft.length = lf.length ∧ (∀ (i : Nat) a c', lt[i]? = some a → ln[i]? = some c' → Tw B Q W k a c') ∧ (∀ (i : Nat) a c', ft[i]? = some a → lf[i]? = some c' → ∃ s r r', a = #[.string s] ++ r ∧ c' = #[.string s] ++ r' ∧ Tw B Q W k r r')
theorem range_keep {W W' : World} {g o : Nat} {cs : List Value} (h : W.rangeAt g o cs) (hb : W'.heap[g]? = W.heap[g]?) : W'.rangeAt g o cs := fun j v hv => (World.cell?_of_block (w := W) (a := ⟨g, o + j, none⟩) hb).trans (h j v hv)
theorem Rd.keep {B sz : Nat} {W W' : World} {v : Value} {l : List (Array Value)} (h : Rd B W sz v l) (hb : ∀ j, j < B → W'.heap[j]? = W.heap[j]?) : Rd B W' sz v l := by
  obtain ⟨oa, cap, h1, h2, h3, h4⟩ := h
  refine ⟨oa, cap, h1, h2, h3, fun i c hc => ?_⟩
  obtain ⟨g, o, e1, e2, e3, e4⟩ := h4 i c hc
  exact ⟨g, o, e1, e2, e3, range_keep e4 (hb g e2)⟩
theorem RdM.keep {Q Q' : Nat → Prop} {sz : Nat} {W W' : World} {v mk : Value} {l : List (Array Value)} (h : RdM Q W sz v l mk) (hb : ∀ j, Q j → W'.heap[j]? = W.heap[j]?) (hq : ∀ j, Q j → Q' j) : RdM Q' W' sz v l mk := by
  obtain ⟨g, cap, h1, h2, h3, h4, h5, h6⟩ := h
  exact ⟨g, cap, h1, h2, h3, hq g h4, fun i c hc => ⟨(h5 i c hc).1, range_keep (h5 i c hc).2 (hb g h4)⟩, (World.cell?_of_block (w := W) (a := ⟨g, _, none⟩) (hb g h4)).trans h6⟩
theorem Nt.keep {B : Nat} {W W' : World} (hb : ∀ j, j < B → W'.heap[j]? = W.heap[j]?) : ∀ {k : Nat} {c : Array Value}, Nt B W k c → Nt B W' k c
  | 0, _, h => h
  | k + 1, c, h => by
    obtain ⟨kd, b, x, s, L, F, ln, lf, h1, h2, h3, h4, h5⟩ := h
    refine ⟨kd, b, x, s, L, F, ln, lf, h1, h2.keep hb, h3.keep hb, fun a ha => (h4 a ha).keep hb, fun a ha => ?_⟩
    obtain ⟨s, r, e1, e2⟩ := h5 a ha
    exact ⟨s, r, e1, e2.keep hb⟩
theorem Tw.keep {B : Nat} {Q Q' : Nat → Prop} {W W' : World} (hb : ∀ j, j < B → W'.heap[j]? = W.heap[j]?) (hq : ∀ j, Q j → W'.heap[j]? = W.heap[j]?) (hs : ∀ j, Q j → Q' j) : ∀ {k : Nat} {t c : Array Value}, Tw B Q W k t c → Tw B Q' W' k t c
  | 0, _, _, h => h
  | k + 1, t, c, h => by
    obtain ⟨kd, b, x, s, L, F, L', F', ln, lf, lt, ft, h1, h2, h3, h4, h5, h6, h7, h8, h9, h10⟩ := h
    refine ⟨kd, b, x, s, L, F, L', F', ln, lf, lt, ft, h1, h2, h3.keep hb, h4.keep hb, h5.keep hq hs, h6.keep hq hs, h7, h8, fun i a c' e1 e2 => (h9 i a c' e1 e2).keep hb hq hs, fun i a c' e1 e2 => ?_⟩
    obtain ⟨s, r, r', f1, f2, f3⟩ := h10 i a c' e1 e2
    exact ⟨s, r, r', f1, f2, f3.keep hb hq hs⟩
theorem Below.drewN' {B : Nat} {a w : World} (h : Below B a w) (n : Nat) : Below B a (w.drewN n) := ⟨h.os, h.tape, h.output, h.size, h.block⟩
theorem tail_range {W : World} {g o : Nat} {v : Value} {r : Array Value} (h : W.rangeAt g o (#[v] ++ r).toList) : W.rangeAt g (o + 1) r.toList := fun j u hu => by
  have := h (j + 1) u (by simpa using hu)
  rwa [show o + (j + 1) = o + 1 + j by omega] at this
def ldN (p : Value) : Sem Value := Instr.loadAt 26 p
theorem toLdN (p : Value) : Instr.loadAt 26 p = ldN p := rfl
theorem sizeN : (Try.prog.info? 26).map (·.size) = some 6 := by kernel_rfl
theorem ld_mid (w : World) (g o : Nat) (c : Array Value) (hc : c.size = 6) (h : w.rangeAt g o c.toList) : (ldN (.pointer (some ⟨g, o, none⟩))).run Try.prog w = .ok (.agg c) w := by
  have := run_loadAt_mid (P := Try.prog) w g o 26 c.toList _ h Try.underlying26 rfl (by rw [sizeN]; simp [hc])
  simpa [ldN] using this
theorem ld_row (w : World) (g : Nat) (c : Array Value) (hc : c.size = 6) (h : w.heap[g]? = some (.cells c 26 (0, 0))) : (ldN (.pointer (some ⟨g, 0, none⟩))).run Try.prog w = .ok (.agg c) w := by
  refine ld_mid w g 0 c hc ?_
  have := World.rangeAt_of_block h 0 6
  rwa [show c.extract 0 (0 + 6) = c by rw [← hc, Nat.zero_add]; simp] at this
theorem ld23 (w : World) {g o n c : Nat} {oa : Option Addr} (h : w.cell? ⟨g, o, none⟩ = some (.slice oa n c)) : (Instr.loadAt 23 (.pointer (some ⟨g, o, none⟩))).run Try.prog w = .ok (.slice oa n c) w := by simp [h, go_sem]
theorem ld24 (w : World) {g o n c : Nat} {oa : Option Addr} (h : w.cell? ⟨g, o, none⟩ = some (.slice oa n c)) : (Instr.loadAt 24 (.pointer (some ⟨g, o, none⟩))).run Try.prog w = .ok (.slice oa n c) w := by simp [h, go_sem]
theorem ld9 (w : World) {g o : Nat} {s : ByteArray} (h : w.cell? ⟨g, o, none⟩ = some (.string s)) : (Instr.loadAt 9 (.pointer (some ⟨g, o, none⟩))).run Try.prog w = .ok (.string s) w := by simp [h, go_sem]
end Go.Proofs.Ytnljnknnjahjkaa
