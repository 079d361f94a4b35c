import Derived.WalkKit
import Derived.WalkSpells
import Derived.WalkLawsBesides
import Derived.ProofKit
import Derived.OpenShut
import Derived.Lib.LaidTab
namespace Go.Proofs.YtceclpabdfncoaaDoor
open Go.RowKit Go.ChangeShapes Go.WideShapes

/-- A list of bytes as cells. -/
def bs (l : List Nat) : Array Value := (l.map fun (b : Nat) => Value.int .u8 (b : Int)).toArray
theorem bs_size (l : List Nat) : (bs l).size = l.length := by simp [bs]
theorem bs_get (l : List Nat) (k : Nat) (h : k < l.length) : (bs l)[k]? = some (.int .u8 ((l.getD k 0 : Nat) : Int)) := by
  simp [bs, List.getD, h]
theorem bs_set (l : List Nat) (k b : Nat) : (bs l).setIfInBounds k (.int .u8 (b : Int)) = bs (l.set k b) := by
  simp [bs, List.map_set]
theorem bs_one (l : List Nat) : (bs l).all (·.oneCell') = true := by
  simp [bs, Value.oneCell']
theorem bs_inj {a b : List Nat} (h : bs a = bs b) : a = b := by
  unfold bs at h
  have h2 := congrArg Array.toList h
  simp only [] at h2
  exact (List.map_inj_right (fun x y e => by have := (Value.int.inj e).2; omega)).1 h2

section
variable {P : Program} {t e : TypeId} {n : Nat}

theorem run_part_bs (w : World) (he : P.underlying e = some (.int .u8)) (l : List Nat) (k : Nat) (hk : k < l.length) :
    (part e (bs l) k).run P w = .ok (.int .u8 ((l.getD k 0 : Nat) : Int)) w := by
  have hagg : (isAgg e).run P w = .ok false w := by
    unfold isAgg
    rw [Sem.run_bind, run_underlying he w]
    simp
  simp [part, Sem.run_bind, hagg, bs_get l k hk]

theorem run_size_bs (w : World) (h1 : (P.info? e).map (·.size) = some 1) : (sizeOf e).run P w = .ok 1 w := by
  cases hq : P.info? e with
  | none => simp [hq] at h1
  | some i => simp [hq] at h1; simp [sizeOf, typeInfo, hq, h1]

theorem run_index_bs (w : World) (ht : P.underlying t = some (.array n e)) (he : P.underlying e = some (.int .u8)) (h1 : (P.info? e).map (·.size) = some 1) (l : List Nat) (hl : l.length = n) (k : Nat) (hk : k < n) :
    (Instr.index t (.agg (bs l)) (.int .i64 (k : Int))).run P w = .ok (.int .u8 ((l.getD k 0 : Nat) : Int)) w := by
  have hp := run_part_bs (P := P) w he l k (by omega)
  simp [Instr.index, asIntOf, Sem.run_bind, run_underlying ht, run_size_bs w h1, hk, hp]

theorem run_equalIn_u8 (w : World) (d : Nat) (he : P.underlying e = some (.int .u8)) (a b : Int) : (Op.equalIn (d + 1) e (.int .u8 a) (.int .u8 b)).run P w = .ok (a == b) w := by
  simp [Op.equalIn, run_underlying he]

theorem forIn_step {f : Nat → (Option Bool × Unit) → Sem (ForInStep (Option Bool × Unit))} (w : World) (q : Nat → Bool) (hf : ∀ i, i < n → ∀ st, (f i st).run P w = .ok (if q i = true then .yield (none, ()) else .done (some false, ())) w) :
    ∀ m s, s + m ≤ n → (forIn (List.range' s m) (none, ()) f).run P w = .ok (if (List.range' s m).all q = true then (none, ()) else (some false, ())) w
  | 0, s, _ => by simp
  | m + 1, s, h => by
    rw [List.range'_succ, List.forIn_cons, Sem.run_bind, hf s (by omega)]
    by_cases hq : q s = true
    · simp only [hq, if_true, Result.andThen_ok, List.all_cons, Bool.true_and]
      exact forIn_step w q hf m (s + 1) (by omega)
    · simp [hq]

theorem run_equalIn_bs (w : World) (d : Nat) (ht : P.underlying t = some (.array n e)) (he : P.underlying e = some (.int .u8)) (h1 : (P.info? e).map (·.size) = some 1) (a b : List Nat) (ha : a.length = n) (hb : b.length = n) :
    (Op.equalIn (d + 2) t (.agg (bs a)) (.agg (bs b))).run P w = .ok (decide (a = b)) w := by
  rw [Op.equalIn]
  simp only [Sem.run_bind, run_underlying ht, Result.andThen_ok, run_size_bs w h1]
  rw [Std.Legacy.Range.forIn_eq_forIn_range']
  have hs : ([:n] : Std.Legacy.Range).size = n := by simp [Std.Legacy.Range.size]
  rw [hs]
  rw [forIn_step (n := n) w (fun i => a.getD i 0 == b.getD i 0) ?_ n 0 (by omega)]
  · by_cases hab : a = b
    · subst hab
      simp
    · have : ¬ ((List.range' 0 n).all fun i => a.getD i 0 == b.getD i 0) = true := by
        intro hh
        apply hab
        apply List.ext_getElem (by omega)
        intro i h1 h2
        have := List.all_eq_true.1 hh i (by simp; omega)
        simpa [List.getD, h1, h2] using this
      rw [if_neg this]
      simp [hab]
  · intro i hi st
    simp only [Nat.mul_one, Sem.run_bind, run_part_bs w he a i (by omega), run_part_bs w he b i (by omega), Result.andThen_ok, run_equalIn_u8 w d he]
    have hq : ∀ x y : Nat, (((x : Nat) : Int) == ((y : Nat) : Int)) = (x == y) := fun x y => by
      rw [Bool.eq_iff_iff]; simp; omega
    rw [hq]
    cases (a.getD i 0 == b.getD i 0) <;> simp

theorem wf_byte {z : Int} (h : (Lit.int .u8 z).wf = true) : 0 ≤ z ∧ z < 256 := by
  simp [Lit.wf] at h
  exact ⟨by have := h.1; simpa [IntKind.min, IntKind.signed] using this, by have := h.2; simp [IntKind.max, IntKind.signed, IntKind.bits] at this; omega⟩
theorem byte_wf {b : Nat} (h : b < 256) : (Lit.int .u8 (b : Int)).wf = true := WalkArith.wf_u8 (by omega)
theorem mapM_range' {α : Type} (l : List α) {β : Type} (g : List α → Option β) (r : α → β) (h : ∀ a ∈ l, g [a] = some (r a)) : ∀ (k : Nat), k ≤ l.length →
    (List.range' k (l.length - k)).mapM (fun i => g (List.take 1 (List.drop i l))) = some ((l.drop k).map r) := by
  intro k hk
  obtain ⟨m, hm⟩ : ∃ m, m = l.length - k := ⟨_, rfl⟩
  rw [← hm]
  induction m generalizing k with
  | zero =>
    have : l.drop k = [] := List.drop_eq_nil_of_le (by omega)
    simp [this]
  | succ m ih =>
    have hlt : k < l.length := by omega
    have h1 : g (List.take 1 (List.drop k l)) = some (r l[k]) := by rw [List.drop_eq_getElem_cons hlt]; exact h l[k] (List.getElem_mem hlt)
    rw [List.range'_succ, List.mapM_cons, h1, ih (k + 1) (by omega) (by omega), List.drop_eq_getElem_cons hlt]
    rfl
theorem mapM_bs {β : Type} {g : List Value → Option β} (l : List Nat) {r : Nat → β} (h : ∀ b ∈ l, g [Value.int .u8 ((b : Nat) : Int)] = some (r b)) :
    (List.range l.length).mapM (fun i => g (List.take 1 (List.drop i (bs l).toList))) = some (l.map r) := by
  have := mapM_range' l (fun l' => g (l'.map fun (b : Nat) => Value.int .u8 (b : Int))) r (by simpa using h) 0 (Nat.zero_le _)
  rw [List.range_eq_range']
  simpa [bs, List.map_take, List.map_drop] using this
/-- Bytes: all below 256. -/
def Byt (l : List Nat) : Prop := ∀ b ∈ l, b < 256
def dlits {H : Type} (l : List Nat) : List (DataW H) := l.map fun (b : Nat) => .lit (.int .u8 (b : Int))

theorem open_bs {H : Type} {enc : TypeId × Value → H} {W : World} {base base' : Nat} {sp : Nat → Bool} {held : Bool} {v : Value} {d : DataW H} {p : List MemPlace}
    (ht : P.underlying t = some (.array n e)) (he : P.underlying e = some (.int .u8)) (hce : P.cellsOf e = 1) (hct : P.cellsOf t = n)
    (hv : Value.okWide P W .any base' t v) (h : DataW.Trod enc P W base sp held t v d p) : ∃ l : List Nat, l.length = n ∧ Byt l ∧ v = .agg (bs l) ∧ d = .agg (dlits l) ∧ p = [] := by
  obtain ⟨fuel, h⟩ := h
  obtain ⟨xs, m, rfl, hx, hlen, hxl, hel⟩ := DataW.trod_array ht h
  obtain ⟨cs, rfl, hcs, _⟩ : ∃ cs, v = .agg cs ∧ cs.size = P.cellsOf t ∧ Row.okWide P W .any base' t cs := by
    unfold Value.okWide at hv
    rw [ht] at hv
    exact hv
  have key : ∀ i (hi : i < n), ∃ z : Nat, z < 256 ∧ cs[i]? = some (.int .u8 (z : Int)) ∧ xs[i]? = some (.lit (.int .u8 (z : Int)), []) := by
    intro i hi
    have h2 := hel i hi
    rw [hce, Nat.mul_one, List.getElem?_eq_getElem (by omega)] at h2
    obtain ⟨z, h3, h4, h5⟩ := DataW.trod_int he h2
    obtain ⟨hz0, hz1⟩ := wf_byte h5
    obtain ⟨y, rfl⟩ : ∃ y : Nat, z = y := ⟨z.toNat, by omega⟩
    refine ⟨y, by omega, ?_, ?_⟩
    · have := congrArg (·[0]?) h3
      simpa [List.getElem?_take, List.getElem?_drop, Value.cells] using this
    · rw [List.getElem?_eq_getElem (by omega), h4]
  obtain ⟨rfl, rfl⟩ := Prod.mk.inj hx
  refine ⟨xs.map fun x => (match x.1 with | .lit (.int _ z) => z.toNat | _ => 0), by simpa using hxl, ?_, ?_, ?_, ?_⟩
  · intro b hb
    obtain ⟨x, hx, rfl⟩ := List.mem_map.1 hb
    obtain ⟨i, hi, rfl⟩ := List.getElem_of_mem hx
    obtain ⟨z, hz, _, h4⟩ := key i (by omega)
    rw [List.getElem?_eq_getElem hi] at h4
    rw [Option.some.inj h4]
    simpa using hz
  · congr 1
    apply Array.ext_getElem?
    intro i
    by_cases hi : i < n
    · obtain ⟨z, hz, h3, h4⟩ := key i hi
      rw [h3]
      simp [bs, h4]
    · rw [Array.getElem?_eq_none (by omega), Array.getElem?_eq_none (by simp [bs]; omega)]
  · congr 1
    apply List.ext_getElem?
    intro i
    by_cases hi : i < n
    · obtain ⟨z, hz, h3, h4⟩ := key i hi
      simp [dlits, h4]
    · rw [List.getElem?_eq_none (by simp; omega), List.getElem?_eq_none (by simp [dlits]; omega)]
  · rw [List.flatMap_eq_nil_iff]
    intro x hx
    obtain ⟨i, hi, rfl⟩ := List.getElem_of_mem hx
    obtain ⟨z, hz, _, h4⟩ := key i (by omega)
    rw [List.getElem?_eq_getElem hi] at h4
    rw [Option.some.inj h4]
theorem shut_bs {H : Type} {enc : TypeId × Value → H} {W : World} {base : Nat} {sp : Nat → Bool} {held : Bool} (l : List Nat)
    (ht : P.underlying t = some (.array n e)) (he : P.underlying e = some (.int .u8)) (hce : P.cellsOf e = 1) (hct : P.cellsOf t = n) (hl : l.length = n) (hb : Byt l) :
    DataW.Trod enc P W base sp held t (.agg (bs l)) (.agg (dlits l)) [] := by
  refine ⟨2, ?_⟩
  unfold DataW.trod
  rw [ht]
  simp only [hce, hct, Nat.mul_one, Value.cells]
  rw [if_pos (by simpa [bs] using hl)]
  have hm : (List.range n).mapM (fun i => DataW.trod enc P W base sp held 1 e (List.take 1 (List.drop i (bs l).toList))) = some (l.map fun (b : Nat) => ((DataW.lit (.int .u8 (b : Int)) : DataW H), ([] : List MemPlace))) := by
    subst hl
    exact mapM_bs l (fun b hbm => trod_int_mk 0 he (byte_wf (hb b hbm)))
  rw [hm]
  simp [dlits, List.flatMap_eq_nil_iff]
end
end Go.Proofs.YtceclpabdfncoaaDoor
