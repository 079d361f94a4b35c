/- The laws' outs: names, and what follows a place of the code. -/
import Derived.Test.YtceclpabdfncoaaDoorRwC
namespace Go.Proofs.YtceclpabdfncoaaDoor.Re
open Go.RowKit
/-- A list of one's own of texts: at most so many, each at most so long. -/
def TL (B M k : Nat) (w : World) (v : Value) : Prop := ∃ O : List S, Ol B 9 1 w v (O.map sR) ∧ O.length ≤ k ∧ ∀ x ∈ O, x.size ≤ M
theorem TL.nil (B M k : Nat) (w : World) : TL B M k w (.slice none 0 0) := ⟨[], ol_nil _ _ _ _, Nat.zero_le _, fun x h => by cases h⟩
theorem TL.below {B M k : Nat} {w w' : World} {v : Value} (h : TL B M k w v) (hb : Below w.heap.size w w') : TL B M k w' v := by
  obtain ⟨O, h1, h2⟩ := h
  exact ⟨O, h1.below hb, h2⟩
theorem TL.mono {B B' M M' k k' : Nat} {w : World} {v : Value} (h : TL B M k w v) (hB : B' ≤ B) (hM : M ≤ M') (hk : k ≤ k') : TL B' M' k' w v := by
  obtain ⟨O, h1, h2, h3⟩ := h
  exact ⟨O, h1.mono hB, by omega, fun x hx => by have := h3 x hx; omega⟩
theorem TL.le {B M k : Nat} {w : World} {a : Option Addr} {n c : Nat} (h : TL B M k w (.slice a n c)) : n ≤ k := by
  obtain ⟨O, h1, h2, -⟩ := h
  obtain ⟨_, _, e, -⟩ := h1.form
  cases e
  rw [List.length_map]
  exact h2
theorem TL.get {B M k : Nat} {w : World} {a : Option Addr} {n c i : Nat} (h : TL B M k w (.slice a n c)) (hi : i < n) : ∃ g x, a = some ⟨g, 0, none⟩ ∧ x.size ≤ M ∧ ∀ w', Below w.heap.size w w' → w'.cell? ⟨g, i, none⟩ = some (.string x) := by
  obtain ⟨O, h1, h2, h3⟩ := h
  obtain ⟨g, rfl⟩ := h1.own (by omega)
  obtain ⟨_, _, e, -⟩ := h1.form
  cases e
  rw [List.length_map] at hi
  refine ⟨g, O[i], rfl, h3 _ (List.getElem_mem hi), fun w' hb => ?_⟩
  have := (h1.below hb).cel i 0 (sR O[i]) (.string O[i]) (by rw [List.getElem?_map, List.getElem?_eq_getElem hi]; rfl) rfl
  simpa using this
/-- One text more. -/
theorem TL.add {B M k : Nat} {w : World} {v : Value} (h : TL B M k w v) (hB : B ≤ w.heap.size) (hk : k < 10000) (s : S) (hs : s.size ≤ M) :
    ∃ a n c w', (apS 22 #[v, .slice (some ⟨w.heap.size, 0, none⟩) 1 1]).run Tryd.prog (w.alloc (.cells #[.string s] 9)) = .ok (.slice a n c) w' ∧ TL B M (k + 1) w' (.slice a n c) ∧ ∀ X, Below B X w → B ≤ X.heap.size → Below B X w' := by
  obtain ⟨O, h1, h2, h3⟩ := h
  have hA : Ol B 9 1 (w.alloc (.cells #[.string s] 9)) v (O.map sR) := ⟨h1.1.alloc _, h1.2⟩
  obtain ⟨v2, w2, r2, p2⟩ := run_apS (w.alloc (.cells #[.string s] 9)) B v (.slice (some ⟨w.heap.size, 0, none⟩) 1 1) _ [sR s] hA (ls_one w (sR s) 9 1 rfl (by simp [sR, Value.oneCell'])) (by unfold MX; simp; omega) (by simp; omega)
  obtain ⟨a2, c2, e2, -⟩ := p2.1.form
  subst e2
  refine ⟨a2, _, c2, w2, r2, ⟨O ++ [s], ?_, by simp; omega, fun x hx => ?_⟩, fun X hX hB2 => p2.bel hA (hX.alloc (Nat.le_trans hB2 hX.size) _) (Nat.le_refl _) hB2⟩
  · rw [List.map_append]
    exact p2.1
  · rcases List.mem_append.1 hx with q | q
    · exact h3 x q
    · rw [List.mem_singleton.1 q]; exact hs
/-- The texts sorted. -/
theorem sortedL (W : World) (lv : Value) (O : List S) (M k : Nat) (h : Ls W lv 1 (O.map sR)) (h2 : O.length ≤ k) (h3 : ∀ x ∈ O, x.size ≤ M) (hk : k ≤ 10000) : Calls Tryd.prog 9 #[lv] W fun e w' => ∃ a n c, e = .returned (.slice a n c) ∧ TL W.heap.size M k w' (.slice a n c) ∧ Below W.heap.size W w' := by
  refine (sorted_any W lv O h (by omega)).mono ?_
  rintro e w' ⟨a, n, c, O', rfl, -, q2, q3, q4, q5⟩
  exact ⟨a, n, c, rfl, ⟨O', q2, by omega, fun x hx => h3 x (q4 x hx)⟩, q5⟩
theorem sortedT_any (W : World) (lv : Value) (B M k : Nat) (h : TL B M k W lv) (hk : k ≤ 10000) : Calls Tryd.prog 9 #[lv] W fun e w' => ∃ a n c, e = .returned (.slice a n c) ∧ TL W.heap.size M k w' (.slice a n c) ∧ Below W.heap.size W w' := by
  obtain ⟨O, h1, h2, h3⟩ := h
  exact sortedL W lv O M k h1.ls h2 h3 hk
structure Sp where
  nm : List S
  md : Int
  fl : Bool
  so : List Nat
  ip : List Nat
  ar : List S
  ks : List S
  tx : S
  sd : Nat
def spV (nv sv iv av kv : Value) (p : Sp) : Array Value := #[nv, .int .i64 p.md, .bool p.fl, sv, iv, av, kv, .string p.tx, .int .u8 (p.sd : Int)]
/-- What a right recipe is made of, as it lies. -/
structure SpH (W : World) (nv sv iv av kv : Value) (p : Sp) : Prop where
  nm : Ls W nv 1 (p.nm.map sR)
  so : Byl sv p.so W
  ip : Byl iv p.ip W
  ar : Ls W av 1 (p.ar.map sR)
  ks : Ls W kv 1 (p.ks.map sR)
  sb : Byt p.so
  ib : Byt p.ip
  m1 : -9223372036854775808 ≤ p.md
  m2 : p.md ≤ 9223372036854775807
  tz : p.tx.size ≤ 1000000000000
  sd : p.sd < 256
  nz : ∀ x ∈ p.nm, x.size ≤ 1000000000000000000
  tx : Tx W
  tb : Sha.Tb W
theorem SpH.below {W W' : World} {nv sv iv av kv : Value} {p : Sp} (h : SpH W nv sv iv av kv p) (hb : Below W.heap.size W W') : SpH W' nv sv iv av kv p := ⟨h.nm.below hb, h.so.below hb, h.ip.below hb, h.ar.below hb, h.ks.below hb, h.sb, h.ib, h.m1, h.m2, h.tz, h.sd, h.nz, h.tx.below hb h.tx.sz, h.tb.below hb h.tb.sz⟩
def headR : Code → Option Nat
  | .region id _ _ => some id
  | .seq a _ => headR a
  | .scope c => headR c
  | .block _ c => headR c
  | .loop c => headR c
  | _ => none
def fromR (n : Nat) : Code → Option (Bool × Code)
  | .seq a b => if headR a = some n then some (false, .seq a b) else match fromR n a with
    | some (false, c) => some (false, .seq c b)
    | some (true, c) => some (true, c)
    | none => fromR n b
  | .scope c => fromR n c
  | .block _ c => (fromR n c).map fun p => (true, p.2)
  | .loop c => (fromR n c).map fun p => (true, p.2)
  | .cond _ a b => match fromR n a with
    | some p => some (true, p.2)
    | none => (fromR n b).map fun p => (true, p.2)
  | _ => none
noncomputable def tlF (f : Func) (k : Nat) : Code := (((f.body.bind (fromR k)).map (·.2)).getD .skip)
end Go.Proofs.YtceclpabdfncoaaDoor.Re
