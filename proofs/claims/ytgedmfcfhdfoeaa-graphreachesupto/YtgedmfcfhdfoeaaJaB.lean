/- Several texts in one: GxA, GxB, GxC. -/
import Derived.Test.YtgedmfcfhdfoeaaGi
import Derived.Test.YtgedmfcfhdfoeaaRgM
import Derived.Maps.OwnSet
import Derived.Maps.Views
import Derived.Maps.Keyed
import Derived.Shelf.Sort.Plain
import Derived.Sort.OwnSortedInts
import Derived.Shelf.Lay
import Derived.Ground.NamesProg
/- Graphs searched: what is fresh, layer by layer (mathematics). -/
namespace Go.Proofs.Ytgedmfcfhdfoeaa
namespace GM
/-- What is not marked yet of a list, and the marks behind it. -/
def frs (M : List Nat) : List Nat → List Nat × List Nat
  | [] => ([], M)
  | v :: r => if v ∈ M then frs M r else (v :: (frs (v :: M) r).1, (frs (v :: M) r).2)
theorem frs_app : ∀ (A B M : List Nat), frs M (A ++ B) = ((frs M A).1 ++ (frs (frs M A).2 B).1, (frs (frs M A).2 B).2)
  | [], B, M => rfl
  | v :: r, B, M => by
    rw [List.cons_append, frs, frs]
    by_cases h : v ∈ M
    · rw [if_pos h, if_pos h]
      exact frs_app r B M
    · rw [if_neg h, if_neg h, frs_app r B (v :: M)]
      rfl
theorem frs_snoc (M A : List Nat) (x : Nat) : frs M (A ++ [x]) = if x ∈ (frs M A).2 then ((frs M A).1, (frs M A).2) else ((frs M A).1 ++ [x], x :: (frs M A).2) := by
  rw [frs_app, frs, frs]
  by_cases h : x ∈ (frs M A).2
  · simp [h]
  · simp [h, frs]
theorem frs_mem : ∀ (A M : List Nat) (x : Nat), x ∈ (frs M A).2 ↔ x ∈ M ∨ x ∈ A
  | [], M, x => by simp [frs]
  | v :: r, M, x => by
    rw [frs]
    by_cases h : v ∈ M
    · rw [if_pos h, frs_mem r M x, List.mem_cons]
      constructor
      · rintro (q | q)
        · exact .inl q
        · exact .inr (.inr q)
      · rintro (q | rfl | q)
        · exact .inl q
        · exact .inl h
        · exact .inr q
    · rw [if_neg h]
      show x ∈ (frs (v :: M) r).2 ↔ _
      rw [frs_mem r (v :: M) x, List.mem_cons, List.mem_cons]
      constructor
      · rintro ((q | q) | q)
        · exact .inr (.inl q)
        · exact .inl q
        · exact .inr (.inr q)
      · rintro (q | q | q)
        · exact .inl (.inr q)
        · exact .inl (.inl q)
        · exact .inr q
theorem frs_sub : ∀ (A M : List Nat) (x : Nat), x ∈ (frs M A).1 → x ∈ A
  | [], M, x, h => by cases h
  | v :: r, M, x, h => by
    rw [frs] at h
    split at h
    · exact List.mem_cons_of_mem _ (frs_sub r M x h)
    · rcases List.mem_cons.1 h with q | q
      · rw [q]
        exact List.mem_cons_self ..
      · exact List.mem_cons_of_mem _ (frs_sub r _ x q)
theorem frs_len : ∀ (A M : List Nat), (frs M A).2.length = M.length + (frs M A).1.length
  | [], M => rfl
  | v :: r, M => by
    rw [frs]
    by_cases h : v ∈ M
    · rw [if_pos h]
      exact frs_len r M
    · rw [if_neg h]
      show (frs (v :: M) r).2.length = M.length + ((frs (v :: M) r).1.length + 1)
      rw [frs_len r (v :: M), List.length_cons]
      omega
theorem frs_nodup : ∀ (A M : List Nat), M.Nodup → (frs M A).2.Nodup
  | [], M, h => h
  | v :: r, M, h => by
    rw [frs]
    by_cases q : v ∈ M
    · rw [if_pos q]
      exact frs_nodup r M h
    · rw [if_neg q]
      exact frs_nodup r (v :: M) (List.nodup_cons.2 ⟨q, h⟩)
theorem nodup_len : ∀ (N : Nat) (L : List Nat), L.Nodup → (∀ x ∈ L, x < N) → L.length ≤ N
  | 0, L, _, h => by
    cases L with
    | nil => exact Nat.le_refl _
    | cons x r => exact absurd (h x (List.mem_cons_self ..)) (by omega)
  | N + 1, L, hn, h => by
    have h1 := nodup_len N (L.erase N) (hn.erase N) (fun x hx => by
      have h2 := (hn.mem_erase_iff).1 hx
      have := h x h2.2
      have := h2.1
      omega)
    by_cases q : N ∈ L
    · rw [List.length_erase_of_mem q] at h1
      omega
    · rw [List.erase_of_not_mem q] at h1
      omega
/-- Numbers, sorted. -/
def srt (L : List Nat) : List Nat := L.mergeSort fun a b => decide (a ≤ b)
theorem srt_mem (L : List Nat) (x : Nat) : x ∈ srt L ↔ x ∈ L := (List.mergeSort_perm L _).mem_iff
theorem srt_len (L : List Nat) : (srt L).length = L.length := (List.mergeSort_perm L _).length_eq
/-- The layers of a search, and the marks behind each. -/
def lyr (nd : Nat → List Nat) (S : List Nat) : Nat → List Nat × List Nat
  | 0 => frs [] S
  | d + 1 => frs (lyr nd S d).2 ((srt (lyr nd S d).1).flatMap nd)
section
variable {nd : Nat → List Nat} {S : List Nat} {N : Nat}
theorem lyr_lt (hS : ∀ x ∈ S, x < N) (hn : ∀ v, v < N → ∀ x ∈ nd v, x < N) : ∀ d, (∀ x ∈ (lyr nd S d).2, x < N) ∧ ∀ x ∈ (lyr nd S d).1, x < N
  | 0 => ⟨fun x hx => by
      rcases (frs_mem S [] x).1 hx with q | q
      · cases q
      · exact hS x q, fun x hx => hS x (frs_sub S [] x hx)⟩
  | d + 1 => by
    obtain ⟨h1, h2⟩ := lyr_lt hS hn d
    have h3 : ∀ x ∈ (srt (lyr nd S d).1).flatMap nd, x < N := fun x hx => by
      obtain ⟨v, hv, hx⟩ := List.mem_flatMap.1 hx
      exact hn v (h2 v ((srt_mem _ _).1 hv)) x hx
    exact ⟨fun x hx => ((frs_mem _ _ x).1 hx).elim (h1 x) (h3 x), fun x hx => h3 x (frs_sub _ _ x hx)⟩
theorem lyr_nodup : ∀ d, (lyr nd S d).2.Nodup
  | 0 => frs_nodup S [] List.nodup_nil
  | d + 1 => frs_nodup _ _ (lyr_nodup d)
theorem lyr_grow : ∀ d, (∀ i, i ≤ d → (lyr nd S i).1 ≠ []) → d + 1 ≤ (lyr nd S d).2.length
  | 0, h => by
    have h1 := List.length_pos_iff.2 (h 0 (Nat.le_refl _))
    have h2 : (lyr nd S 0).2.length = 0 + (lyr nd S 0).1.length := frs_len S []
    omega
  | d + 1, h => by
    have h1 := List.length_pos_iff.2 (h (d + 1) (Nat.le_refl _))
    have h2 : (lyr nd S (d + 1)).2.length = (lyr nd S d).2.length + (lyr nd S (d + 1)).1.length := frs_len _ _
    have h3 := lyr_grow d (fun i hi => h i (by omega))
    omega
theorem least_of {p : Nat → Prop} : ∀ m, (∃ K, K ≤ m ∧ p K) → ∃ K, K ≤ m ∧ p K ∧ ∀ i, i < K → ¬ p i
  | 0, h => by
    obtain ⟨K, h1, h2⟩ := h
    exact ⟨K, h1, h2, fun i hi => by omega⟩
  | m + 1, h => by
    by_cases q : ∃ K, K ≤ m ∧ p K
    · obtain ⟨K, h1, h2, h3⟩ := least_of m q
      exact ⟨K, by omega, h2, h3⟩
    · obtain ⟨K, h1, h2⟩ := h
      exact ⟨K, h1, h2, fun i hi hp => q ⟨i, by omega, hp⟩⟩
/-- How many layers there are. -/
theorem lyr_end (hS : ∀ x ∈ S, x < N) (hn : ∀ v, v < N → ∀ x ∈ nd v, x < N) : ∃ K, K ≤ N ∧ (lyr nd S K).1 = [] ∧ ∀ i, i < K → (lyr nd S i).1 ≠ [] := by
  refine least_of (p := fun d => (lyr nd S d).1 = []) N (Classical.byContradiction fun h => ?_)
  have h1 := lyr_grow (nd := nd) (S := S) N (fun i hi q => h ⟨i, hi, q⟩)
  have h2 := nodup_len N _ (lyr_nodup N) (lyr_lt hS hn N).1
  omega
/-- Behind the layers there is nothing. -/
theorem lyr_sum : ∀ d, (lyr nd S d).1.length ≤ (lyr nd S d).2.length
  | 0 => by
    have h2 : (lyr nd S 0).2.length = 0 + (lyr nd S 0).1.length := frs_len S []
    omega
  | d + 1 => by
    have h2 : (lyr nd S (d + 1)).2.length = (lyr nd S d).2.length + (lyr nd S (d + 1)).1.length := frs_len _ _
    omega
end
end GM
end Go.Proofs.Ytgedmfcfhdfoeaa

/- Graphs searched: marks, and what is fresh of a list. -/
namespace Go.Proofs.Ytgedmfcfhdfoeaa
open Go.RowKit GM
set_option maxRecDepth 20000
theorem mkHid {p : Prop} (h : p) : Hid p := h
theorem keyI : Maps.Keyed Try.prog 3 := Maps.int_keyed Try.underlying3
def kI (v : Nat) : Lit := .int .i64 (v : Int)
theorem kI_inj {a b : Nat} (h : kI a = kI b) : a = b := by
  unfold kI at h
  injection h with _ h
  omega
theorem kI_key {v : Nat} (h : v < 4611686018427387904) : keyOf Try.prog 3 (.int .i64 (v : Int)) = some (kI v) := by
  refine Maps.keyOf_int_mk Try.underlying3 ?_
  have h3 : IntKind.i64.min = -9223372036854775808 := by decide
  have h4 : IntKind.i64.max = 9223372036854775807 := by decide
  simp [Lit.wf, h3, h4]
  omega
/-- A set of numbers as it lies. -/
def Mks (w : World) (b : Nat) (M : List Nat) : Prop := ∃ D : DataW Unit, w.ownsMap Try.prog 3 unitElem b M.length D ∧ Maps.size D = M.length ∧ ∀ v : Nat, v < 4611686018427387904 → Maps.has D (kI v) = decide (v ∈ M)
theorem Mks.lt {w : World} {b : Nat} {M : List Nat} (h : Mks w b M) : b < w.heap.size := let ⟨_, h, _⟩ := h; h.lt
theorem Mks.keep {w w' : World} {b : Nat} {M : List Nat} (h : Mks w b M) (hb : w'.heap[b]? = w.heap[b]?) : Mks w' b M := by
  obtain ⟨D, ⟨es, clock, h1, h2⟩, h3⟩ := h
  exact ⟨D, ⟨es, clock, hb.trans h1, h2⟩, h3⟩
theorem Mks.row {w : World} {b : Nat} {M : List Nat} (h : Mks w b M) {g : Nat} {C : Array Value} {t : Nat} (hg : w.heap[g]? = some (.cells C t (0, 0))) : b ≠ g := by
  obtain ⟨D, ⟨es, clock, h1, h2⟩, h3⟩ := h
  intro e
  subst e
  have := h1.symm.trans hg
  injection this with this
  cases this
theorem mks_made (w : World) : Mks (w.alloc (.map #[] 0)) w.heap.size [] := ⟨_, World.ownsMap_made w _ _ _, rfl, fun _ _ => rfl⟩
/-- Marks with one more. -/
def mkk (M : List Nat) (v : Nat) : List Nat := if v ∈ M then M else v :: M
def muS (m k v : Value) : Sem Unit := Instr.mapUpdate 100 m k v
theorem toMuS (m k v : Value) : Instr.mapUpdate 100 m k v = muS m k v := rfl
def lnS (ty : Nat) (vs : Array Value) : Sem Value := Builtin.len_ #[100] ty vs
theorem toLnS (ty : Nat) (vs : Array Value) : Builtin.len_ #[100] ty vs = lnS ty vs := rfl
theorem Mks.len {w : World} {b : Nat} {M : List Nat} (h : Mks w b M) (ty : Nat) : (lnS ty #[.map (some b)]).run Try.prog w = .ok (.int .i64 (M.length : Int)) w := by
  obtain ⟨D, h1, h2, h3⟩ := h
  have := h1.len Try.underlying100 ty
  rw [h2] at this
  exact this
theorem Mks.put {w : World} {b : Nat} {M : List Nat} (h : Mks w b M) {v : Nat} (hv : v < 4611686018427387904) (hM : M.length < 1000000000) :
    ∃ w', (muS (.map (some b)) (.int .i64 (v : Int)) (.agg #[])).run Try.prog w = .ok () w' ∧ Mks w' b (mkk M v) ∧ w.mapTurned w' b := by
  unfold mkk
  obtain ⟨D, h1, h2, h3⟩ := h
  have hT := h1.tidy keyI
  obtain ⟨w', q1, q2, q3⟩ := h1.store keyI Try.underlying100 (by unfold maxLen; omega) (kI_key hv) (unitElem_mk (H := Unit))
  have hk : WideAt.IsKeyLit (kI v) := keyI.key (kI_key hv)
  have hs := Maps.size_put (k := kI v) hT (DataW.agg [])
  have hh := h3 v hv
  refine ⟨w', q1, ⟨D.put (kI v) (.agg []), ?_, ?_, fun u hu => ?_⟩, q3⟩
  · obtain ⟨es, clock, a1, a2, a3, a4⟩ := q2
    refine ⟨es, clock, a1, a2, ?_, a4⟩
    have e1 : Maps.size (D.put (kI v) (DataW.agg [])) = es.size := by rw [a4]; simp [Maps.size, length_sorted]
    rw [e1] at hs
    rw [hs, hh]
    by_cases q : v ∈ M <;> simp [q] <;> omega
  · rw [hs, hh]
    by_cases q : v ∈ M <;> simp [q] <;> omega
  · by_cases e : u = v
    · subst e
      rw [Maps.has_put_same (h1.isMap) hk]
      by_cases q : u ∈ M <;> simp [q]
    · rw [Maps.has_put_other (fun q => e (kI_inj q)), h3 u hu]
      by_cases q : v ∈ M <;> simp [q, e]
theorem turned_frm {w w' : World} {b : Nat} (h : w.mapTurned w' b) : Rm.Frm (fun k => k = b) w w' := by
  have hg := h.grown
  exact ⟨hg.os, hg.tape, hg.output, hg.size, fun k hk hx => hg.block k hk (fun e => hx (Option.some.inj e))⟩
attribute [local go_sem ↓] toMuS toLnS in
set_option maxRecDepth 100000 in
theorem mark_any (w : World) {b v : Nat} {M : List Nat} (h : Mks w b M) (hv : v < 4611686018427387904) (hM : M.length < 1000000000) :
    Calls Try.prog 99 #[.map (some b), .int .i64 (v : Int)] w fun e w' => e = .returned (.bool (decide (v ∉ M))) ∧ Mks w' b (mkk M v) ∧ Rm.Frm (fun k => k = b) w w' := by
  have q1 := h.len 3
  obtain ⟨w1, q2, h2, q3⟩ := h.put hv hM
  have q4 := h2.len 3
  unfold mkk at q4
  have HH := mkHid (And.intro h2 (turned_frm q3))
  obtain ⟨m, hm⟩ : ∃ m, M.length = m := ⟨_, rfl⟩
  rw [hm] at q1
  by_cases c : v ∈ M
  · rw [if_pos c, hm] at q4
    rw [show decide (v ∉ M) = false by simp [c]]
    clear h h2 q3 c hm hM hv
    go_enter Try.func99, Try.ntmps99
    go_wp2_with fail
    go_ret
    exact ⟨rfl, HH.out⟩
  · rw [if_neg c, List.length_cons, hm] at q4
    rw [show decide (v ∉ M) = true by simp [c]]
    have hlt : decide ((m : Int) < (m : Int) + 1) = true := decide_eq_true (by omega)
    clear h h2 q3 c hm hM hv
    go_enter Try.func99, Try.ntmps99
    go_wp2_with fail
    go_ret
    exact ⟨rfl, HH.out⟩
/-- A slice of numbers in a block. -/
def Il (g : Nat) (v : Value) (l : List Nat) (w : World) : Prop := ∃ o c, v = .slice o l.length c ∧ (0 < l.length → ∃ off, o = some ⟨g, off, none⟩ ∧ g < w.heap.size ∧ ∀ j, j < l.length → w.cell? ⟨g, off + j, none⟩ = some (.int .i64 ((l.getD j 0 : Nat) : Int)))
theorem Il.keep {g : Nat} {v : Value} {l : List Nat} {w w' : World} (h : Il g v l w) (hs : w.heap.size ≤ w'.heap.size) (hb : w'.heap[g]? = w.heap[g]?) : Il g v l w' := by
  obtain ⟨o, c, h1, h2⟩ := h
  refine ⟨o, c, h1, fun hl => ?_⟩
  obtain ⟨off, e1, e2, e3⟩ := h2 hl
  exact ⟨off, e1, Nat.lt_of_lt_of_le e2 hs, fun j hj => (World.cell?_of_block (w := w) hb).trans (e3 j hj)⟩
theorem own_il {w : World} {B n : Nat} {v : Value} {l : List Nat} (h : w.ownsRow B 3 1 v n (ik l).toList) : ∃ g, Il g v l w ∧ (0 < l.length → B ≤ g ∧ v.ownBlock = some g) := by
  obtain ⟨hn, o, c, rfl, h2⟩ := own_get h
  by_cases q : 0 < l.length
  · obtain ⟨g, rfl, e1, e2, e3⟩ := h2 q
    exact ⟨g, ⟨_, c, rfl, fun _ => ⟨0, rfl, e1, fun j hj => by rw [Nat.zero_add]; exact e3 j hj⟩⟩, fun _ => ⟨e2, rfl⟩⟩
  · exact ⟨0, ⟨o, c, rfl, fun h => absurd h q⟩, fun h => absurd h q⟩
theorem take_snocN {l : List Nat} {i : Nat} (h : i < l.length) : l.take (i + 1) = l.take i ++ [l.getD i 0] := by
  rw [List.take_add_one, List.getElem?_eq_getElem h]
  simp [List.getD, h]
theorem frs_le : ∀ (A M : List Nat), (frs M A).1.length ≤ A.length
  | [], M => Nat.le_refl _
  | v :: r, M => by
    rw [frs]
    split
    · exact Nat.le_succ_of_le (frs_le r M)
    · exact Nat.succ_le_succ (frs_le r _)
theorem own_tyI {w : World} {B n k : Nat} {v : Value} {xs : List Value} (h : w.ownsRow B 3 1 v n xs) (hk : v.ownBlock = some k) : ∃ c, w.heap[k]? = some (.cells c 3 (0, 0)) := by
  rcases h.2 with ⟨h1, _⟩ | ⟨g, cap, cur, h1, h2, h3, _⟩
  · rw [h1] at hk; cases hk
  · rw [h1] at hk; simp [Value.ownBlock] at hk; subst hk; exact ⟨cur, h3⟩
theorem mkk_frs (M A : List Nat) (x : Nat) : mkk (frs M A).2 x = (frs M (A ++ [x])).2 := by
  rw [frs_snoc]
  unfold mkk
  split <;> rfl
theorem measI (m i : Nat) (h : i < m) : m - ((i : Int) + 1).toNat < m - (i : Int).toNat := by omega
theorem geI (k : Nat) : (0 : Int) ≤ (k : Int) := by omega
theorem ltI {k m : Nat} (h : k < m) : (k : Int) < (m : Int) := by omega
theorem nltI {k m : Nat} (h : ¬ k < m) : ¬ (k : Int) < (m : Int) := by omega
theorem eqI {k m : Nat} (h : k ≤ m) (h2 : ¬ k < m) : k = m := by omega
theorem wrapI (i : Nat) (h : i < 1000000000) : wrap64 ((i : Int) + 1) = (i : Int) + 1 := by unfold wrap64; omega
/-- What appendFresh has laid of the first of its numbers. -/
structure FrI (w : World) (B b : Nat) (LV0 : Value) (L M A : List Nat) (ni : Nat) (lv : Value) (wr : World) : Prop where
  len : ni = L.length + (frs M A).1.length
  own : wr.ownsRow B 3 1 lv ni (ik (L ++ (frs M A).1)).toList
  mks : Mks wr b (frs M A).2
  frm : Rm.Frm (fun k => k = b ∨ LV0.ownBlock = some k) w wr
  new : ∀ k, lv.ownBlock = some k → LV0.ownBlock = some k ∨ w.heap.size ≤ k
section
variable {w wr w1 : World} {B b : Nat} {LV0 lv : Value} {L M A : List Nat} {ni x : Nat}
theorem FrI.turn (h : FrI w B b LV0 L M A ni lv wr) (hf : Rm.Frm (fun k => k = b) wr w1) : w1.ownsRow B 3 1 lv ni (ik (L ++ (frs M A).1)).toList :=
  own_keep2 h.own (fun k q => hf.blk k (h.own.lt k q).2 (fun e => by
    subst e
    obtain ⟨C', hC'⟩ := own_tyI h.own q
    exact h.mks.row hC' rfl))
theorem FrI.skip (h : FrI w B b LV0 L M A ni lv wr) (hx : x ∈ (frs M A).2) (hm : Mks w1 b (mkk (frs M A).2 x)) (hf : Rm.Frm (fun k => k = b) wr w1) : FrI w B b LV0 L M (A ++ [x]) ni lv w1 := by
  have e := frs_snoc M A x
  rw [if_pos hx] at e
  refine ⟨by rw [e]; exact h.len, by rw [e]; exact h.turn hf, by rw [← mkk_frs]; exact hm, h.frm.trans (hf.wide (fun k _ q => .inl q)), h.new⟩
theorem FrI.add (h : FrI w B b LV0 L M A ni lv wr) (hB : B ≤ w.heap.size) (hbw : b < w.heap.size) (hx : ¬ x ∈ (frs M A).2) (hn : ni + 1 ≤ 1000000000) (hm : Mks w1 b (mkk (frs M A).2 x)) (hf : Rm.Frm (fun k => k = b) wr w1) :
    ∃ o' c' w2, (apI 32 #[lv, .slice (some ⟨w1.heap.size, 0, none⟩) 1 1]).run Try.prog (w1.alloc (.cells #[.int .i64 (x : Int)] 3)) = .ok (.slice o' (ni + 1) c') w2 ∧ FrI w B b LV0 L M (A ++ [x]) (ni + 1) (.slice o' (ni + 1) c') w2 := by
  have e := frs_snoc M A x
  rw [if_neg hx] at e
  have ho := h.turn hf
  have hs : w.heap.size ≤ w1.heap.size := Nat.le_trans h.frm.size hf.size
  obtain ⟨v', w2, r1, r2, r3, r4⟩ := run_apI w1 B ni 32 lv (L ++ (frs M A).1) x ho (by omega) (by omega)
  obtain ⟨o', c', rfl⟩ := own_size r2
  have hb1 : b < w1.heap.size := by omega
  have hnb : ¬ lv.ownBlock = some b := fun q => by
    obtain ⟨C', hC'⟩ := own_tyI ho q
    exact hm.row hC' rfl
  have old := fun k hk hn => grown_oldR r3 k hk hn
  have hz : w1.heap.size ≤ w2.heap.size := by have := r3.size; simp at this; omega
  refine ⟨o', c', w2, r1, ?_, ?_, ?_, ?_, ?_⟩
  · rw [e, List.length_append, List.length_singleton, h.len]
    omega
  · rw [e, ← List.append_assoc]
    exact r2
  · rw [← mkk_frs]
    exact hm.keep (old b hb1 hnb)
  · have f2 : Rm.Frm (fun k => k = b ∨ LV0.ownBlock = some k) w w1 := h.frm.trans (hf.wide (fun k _ q => .inl q))
    refine ⟨r3.os.trans f2.os, r3.tape.trans f2.tape, r3.output.trans f2.output, Nat.le_trans f2.size hz, fun k hk hx => (old k (by omega) (fun q => ?_)).trans (f2.blk k hk hx)⟩
    rcases h.new k q with q1 | q1
    · exact hx (.inr q1)
    · omega
  · intro k q
    rcases r4 with q1 | q1
    · exact h.new k (q1.symm.trans q)
    · rw [q1] at q
      have := Option.some.inj q
      exact .inr (by omega)
theorem FrI.read {g m i : Nat} {vs : List Nat} {ov : Option Addr} (h : FrI w B b LV0 L M (vs.take i) ni lv wr) (hmn : vs.length = m) (hlt : i < m) (hvc : 0 < m → ∃ off, ov = some ⟨g, off, none⟩ ∧ g < w.heap.size ∧ ∀ j, j < m → w.cell? ⟨g, off + j, none⟩ = some (.int .i64 ((vs.getD j 0 : Nat) : Int))) (hx : ∀ x ∈ vs, x < 1000000000) (hg : 0 < m → g ≠ b ∧ LV0.ownBlock ≠ some g) (hL : L.length + m < 100000000) (hM : M.length + m < 100000000) :
    ∃ (off x : Nat), ov = some ⟨g, off, none⟩ ∧ wr.cell? ⟨g, off + i, none⟩ = some (.int .i64 (x : Int)) ∧ vs.take (i + 1) = vs.take i ++ [x] ∧ x < 4611686018427387904 ∧ (frs M (vs.take i)).2.length < 1000000000 ∧ ni + 1 ≤ 1000000000 ∧ i < 1000000000 := by
  obtain ⟨off, e1, e2, e3⟩ := hvc (by omega)
  have hgg := hg (by omega)
  have hiv : i < vs.length := by omega
  have hxm : vs.getD i 0 < 1000000000 := hx _ (by simp [List.getD, hiv])
  have h1 := frs_len (vs.take i) M
  have h2 := frs_le (vs.take i) M
  have h3 : (vs.take i).length ≤ i := by rw [List.length_take]; omega
  have h4 := h.len
  exact ⟨off, vs.getD i 0, e1, (World.cell?_of_block (w := w) (a := ⟨g, off + i, none⟩) (h.frm.blk g e2 (fun q => q.elim hgg.1 hgg.2))).trans (e3 i hlt), take_snocN hiv, by omega, by omega, by omega, by omega⟩
end
attribute [local go_sem ↓] toApI in
set_option maxRecDepth 100000 in
set_option maxHeartbeats 3200000 in
theorem fresh_any (w : World) {B b g : Nat} {lv vv : Value} {L vs M : List Nat} (hl : w.ownsRow B 3 1 lv L.length (ik L).toList) (hB : B ≤ w.heap.size) (hv : Il g vv vs w) (hm : Mks w b M) (hg : 0 < vs.length → g ≠ b ∧ lv.ownBlock ≠ some g) (hx : ∀ x ∈ vs, x < 1000000000) (hL : L.length + vs.length < 100000000) (hM : M.length + vs.length < 100000000) :
    Calls Try.prog 72 #[lv, vv, .map (some b)] w fun e w' => ∃ ni lv', e = .returned lv' ∧ FrI w B b lv L M vs ni lv' w' := by
  obtain ⟨o, c, rfl⟩ := own_size hl
  obtain ⟨ov, cv, rfl, hvc⟩ := hv
  obtain ⟨n0, hn0⟩ : ∃ n, L.length = n := ⟨_, rfl⟩
  obtain ⟨m, hmn⟩ : ∃ m, vs.length = m := ⟨_, rfl⟩
  obtain ⟨LV, hLV⟩ : ∃ v, Value.slice o n0 c = v := ⟨_, rfl⟩
  have HS2 : Hid (FrI w B b LV L M (vs.take 0) n0 (.slice o n0 c) w) := by
    rw [← hLV, ← hn0]
    refine ⟨rfl, ?_, hm, Rm.Frm.refl _ _, fun k h => .inl h⟩
    simpa [frs] using hl
  rw [hmn] at hvc hg hL hM
  rw [hn0, hLV] at hg
  have HN := mkHid (And.intro hB (And.intro hx (And.intro hL (And.intro hM (And.intro hg (And.intro hm.lt (And.intro hvc hmn)))))))
  rw [hn0, hmn]
  have HP : Hid (∀ ni lv' w', FrI w B b LV L M vs ni lv' w' → FrI w B b (.slice o n0 c) L M vs ni lv' w') := by rw [hLV]; exact fun _ _ _ h => h
  clear hl hB hm hg hx hL hM hvc hmn hn0 hLV
  go_enter Try.func72, Try.ntmps72
  go_wp2_with fail
  go_loopw [11, 0] (fun iv sv wr => ∃ (i : Nat) (oi : Option Addr) (ci ni : Nat), iv = .int .i64 (i : Int) ∧ sv = .slice oi ni ci ∧ i ≤ m ∧ Hid (FrI w B b LV L M (vs.take i) ni (.slice oi ni ci) wr)) (fun iv _ _ => m - (intOf iv).toNat)
  case atStart => exact ⟨0, o, c, n0, rfl, rfl, Nat.zero_le _, HS2⟩
  case round =>
    obtain ⟨i, oi, ci, ni, rfl, rfl, hi, HI⟩ := hrel
    by_cases hlt : i < m
    · have hi1 := ltI hlt
      have hi0 := geI i
      obtain ⟨hB, hx, hL, hM, hg, hbw, hvc, hmn⟩ := HN.out
      obtain ⟨off, x, rfl, c1, ht, hxm, hml, hni, hi9⟩ := HI.out.read hmn hlt hvc hx hg hL hM
      have hw1 := wrapI i hi9
      have C := mark_any wr HI.out.mks (v := x) hxm hml
      have HQ := mkHid (And.intro ht (And.intro hni (And.intro hB hbw)))
      clear hB hx hL hM hg hbw hvc hmn ht hxm hml hni hi9
      by_cases hin : x ∈ (frs M (vs.take i)).2
      · rw [show decide (x ∉ (frs M (vs.take i)).2) = false by simp [hin]] at C
        have hin' := mkHid hin
        clear hin
        go_wp2_with fail
        refine C.mono ?_
        rintro e w1 ⟨rfl, hm1, f1⟩
        have HQ2 : Hid (FrI w B b LV L M (vs.take (i + 1)) ni (.slice oi ni ci) w1) := by
          rw [HQ.out.1]
          exact HI.out.skip hin'.out hm1 f1
        clear hm1 f1 C
        go_wp2_with fail
        exact ⟨⟨i + 1, oi, ci, ni, by simp [hw1], rfl, hlt, HQ2⟩, by rw [hw1]; exact measI _ _ hlt⟩
      · rw [show decide (x ∉ (frs M (vs.take i)).2) = true by simp [hin]] at C
        have hin' := mkHid hin
        clear hin
        go_wp2_with fail
        refine C.mono ?_
        rintro e w1 ⟨rfl, hm1, f1⟩
        obtain ⟨o', c', w2, r1, r2⟩ := HI.out.add HQ.out.2.2.1 HQ.out.2.2.2 hin'.out HQ.out.2.1 hm1 f1
        have HQ2 : Hid (FrI w B b LV L M (vs.take (i + 1)) (ni + 1) (.slice o' (ni + 1) c') w2) := by
          rw [HQ.out.1]
          exact r2
        clear hm1 f1 C r2
        go_wp2_with fail
        exact ⟨⟨i + 1, o', c', ni + 1, by simp [hw1], rfl, hlt, HQ2⟩, by rw [hw1]; exact measI _ _ hlt⟩
    · have hi1 := nltI hlt
      obtain rfl := eqI hi hlt
      have HQ2 : Hid (FrI w B b (.slice o n0 c) L M vs ni (.slice oi ni ci) wr) := by
        refine HP.out _ _ _ ?_
        have q := HI.out
        rwa [List.take_of_length_le (Nat.le_of_eq HN.out.2.2.2.2.2.2.2)] at q
      go_wp2_with fail
      go_ret
      exact ⟨_, _, rfl, HQ2.out⟩
end Go.Proofs.Ytgedmfcfhdfoeaa

/- Graphs searched: slices.Sort of numbers, what a node needs, sameInts. -/
namespace Go.Proofs.Ytgedmfcfhdfoeaa
open Go.RowKit GM
set_option maxRecDepth 20000
shelf_lay Lays.n189 Nm 189 at Try as Try.sortI
theorem ik_map (l : List Nat) : (ik l).toList = (l.map fun n : Nat => (n : Int)).map (Value.int .i64) := by simp [ik]
theorem srt_map (l : List Nat) : (l.map fun n : Nat => (n : Int)).mergeSort (fun x y => decide (x ≤ y)) = (srt l).map fun n : Nat => (n : Int) := by
  unfold srt
  rw [List.map_mergeSort (r := fun a b : Nat => decide (a ≤ b)) (s := fun x y : Int => decide (x ≤ y))]
  intro a _ b _
  simp
/-- Sort. -/
theorem sort_any (w : World) {B n : Nat} {v : Value} {l : List Nat} (h : w.ownsRow B 3 1 v n (ik l).toList) (hl : 0 < l.length) (hl2 : l.length < 1000000000) :
    Calls Try.prog 40 #[v] w fun e w' => e = .returned (.tuple #[]) ∧ w'.ownsRow B 3 1 v n (ik (srt l)).toList ∧ Rm.Frm (fun k => v.ownBlock = some k) w w' := by
  obtain ⟨h0, h1⟩ := h
  have hn : n = l.length := by simpa [ik] using h0.symm
  subst hn
  rcases h1 with ⟨rfl, h1⟩ | ⟨g, cap, cur, rfl, hB, hg, hnc, hcm, hcs, htk⟩
  · omega
  · rw [ik_map] at htk
    have hH := holds_of_blockI (ss := l.map fun n : Nat => (n : Int)) hg (by rw [List.length_map]; simpa using htk)
    have C := Any.slices_Sort_int Try.sortI g 0 cap (l.map fun n : Nat => (n : Int)) w hH (Array.getElem?_eq_some_iff.1 hg).1 (by rw [List.length_map]; omega)
    rw [List.length_map, srt_map] at C
    refine Calls.mono C ?_
    rintro e w' ⟨rfl, m, os, rfl⟩
    have o := ownsRow_sortedI (w := w) (base := B) (n := m) (os := os) (ss := l.map fun n : Nat => (n : Int)) (ts := (srt l).map fun n : Nat => (n : Int)) (by simp [srt_len]) hB hg (by simpa using hnc) hcm (by simpa using hcs)
    rw [List.length_map] at o
    have f := grownBy_sortedI (w := w) (g := g) (n := m) (os := os) (((srt l).map fun n : Nat => (n : Int)).toArray)
    refine ⟨rfl, by rw [ik_map]; exact o, f.os, f.tape, f.output, f.size, fun k hk hx => f.block k hk (fun e => hx ?_)⟩
    exact e.symm
set_option maxRecDepth 100000 in
/-- What a node needs. -/
theorem of_cell (w : World) {g N v n c : Nat} {o : Option Addr} (h : w.cell? ⟨g, v, none⟩ = some (.slice o n c)) (hv : v < N) :
    Calls Try.prog 48 #[.slice (some ⟨g, 0, none⟩) N N, .int .i64 (v : Int)] w fun e w' => e = .returned (.slice o n c) ∧ w' = w := by
  have i1 := ltI hv
  have i0 := geI v
  have c1 : w.cell? ⟨g, 0 + v, none⟩ = some (.slice o n c) := by rw [Nat.zero_add]; exact h
  go_enter Try.func48, Try.ntmps48
  go_wp2_with fail
  go_ret
  exact ⟨rfl, rfl⟩
set_option maxRecDepth 100000 in
set_option maxHeartbeats 1600000 in
/-- The law's sameInts, of equal lists. -/
theorem same_ints (w : World) {ga gb : Nat} {a b : Value} {l : List Nat} (ha : Il ga a l w) (hb : Il gb b l w) (hl : l.length < 1000000000) :
    Calls Try.prog 9 #[a, b] w fun e w' => e = .returned (.bool true) ∧ ∃ m, w' = w.drewN m := by
  obtain ⟨oa, ca, rfl, h1⟩ := ha
  obtain ⟨ob, cb, rfl, h2⟩ := hb
  obtain ⟨m, hm⟩ : ∃ m, l.length = m := ⟨_, rfl⟩
  rw [hm] at h1 h2 hl ⊢
  have H1 := mkHid h1
  have H2 := mkHid h2
  have HL := mkHid hl
  clear h1 h2 hl hm
  go_enter Try.func9, Try.ntmps9
  go_wp2_with fail
  go_loopw [5] (fun iv wr => ∃ i : Nat, iv = .int .i64 (i : Int) ∧ i ≤ m ∧ Hid (∃ q, wr = w.drewN q)) (fun iv _ => m - (intOf iv).toNat)
  case atStart => exact ⟨0, rfl, Nat.zero_le _, 0, rfl⟩
  case round =>
    obtain ⟨i, rfl, hi, HI⟩ := hrel
    by_cases hlt : i < m
    · have i1 := ltI hlt
      have i0 := geI i
      have hw1 := wrapI i (Nat.lt_trans hlt HL.out)
      obtain ⟨offa, rfl, -, ca1⟩ := H1.out (Nat.lt_of_le_of_lt (Nat.zero_le _) hlt)
      obtain ⟨offb, rfl, -, cb1⟩ := H2.out (Nat.lt_of_le_of_lt (Nat.zero_le _) hlt)
      obtain ⟨q, hq⟩ := HI.out
      have d1 : ∀ k, (wr.drewN k).cell? ⟨ga, offa + i, none⟩ = some (.int .i64 ((l.getD i 0 : Nat) : Int)) := fun k => by rw [hq]; exact ca1 i hlt
      have d2 : ∀ k, (wr.drewN k).cell? ⟨gb, offb + i, none⟩ = some (.int .i64 ((l.getD i 0 : Nat) : Int)) := fun k => by rw [hq]; exact cb1 i hlt
      obtain ⟨x, hx⟩ : ∃ x, l.getD i 0 = x := ⟨_, rfl⟩
      rw [hx] at d1 d2
      have HQ := mkHid hq
      clear ca1 cb1 hx hq
      go_wp2_with fail
      go_quiet (fail)
      go_wp2_with fail
      exact ⟨⟨i + 1, by simp [hw1], hlt, by rw [HQ.out, World.drewN_drewN]; exact ⟨_, rfl⟩⟩, by rw [hw1]; exact measI _ _ hlt⟩
    · have i1 := nltI hlt
      go_wp2_with fail
      go_ret
      exact ⟨rfl, HI.out⟩
end Go.Proofs.Ytgedmfcfhdfoeaa
