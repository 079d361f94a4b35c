/- GraphReaches: Each of anything. -/
import Derived.Test.YtgedmfcfhdfoeaaGuZ
import Derived.Handy
namespace Go.Proofs.Ytgedmfcfhdfoeaa
open Go.RowKit GM Gux
set_option maxRecDepth 20000
/-- An iterator that hands out these pairs. -/
def Ech (L : List (Nat × Nat)) (fv : Value) (w : World) : Prop := ∃ (gf : Nat) (lb : Array Value) (Da : Nat → Prop), fv = .func (.func gf) #[] lb ∧ (∀ args w, (callFunc gf args).run Try.prog w = .ok (.enter gf args) w) ∧ (∀ k, Da k → k < w.heap.size) ∧
  Rm.Iter Fence.wide 8 Try.prog gf lb L.length (fun i x _ => ∃ p, L[i]? = some p ∧ x = #[.int .i64 (p.1 : Int), .int .i64 (p.2 : Int)]) (fun _ _ => False) (fun _ _ _ => True) w Da
/-- What Each goes over. -/
def LiV (N : Int) (E : List (Int × Int)) (l : List Int) (L : List (Nat × Nat)) : Prop := ((∃ e0, ErV N E l e0) ∧ L = []) ∨ ∃ n F S K, OkV N E l n F S ∧ n ≤ 8192 ∧ (lyr (ndF n F) S K).1 = [] ∧ L = eaL (ndF n F) S K
theorem liv_uniq {N : Int} {E : List (Int × Int)} {l : List Int} {L L' : List (Nat × Nat)} (h : LiV N E l L) (k : LiV N E l L') : L = L' := by
  rcases h with ⟨⟨e0, h1⟩, rfl⟩ | ⟨n, F, S, K, h1, -, h2, rfl⟩
  · rcases k with ⟨-, rfl⟩ | ⟨n, F, S, K, k1, -, k2, rfl⟩
    · rfl
    · exact (k1.no h1).elim
  · rcases k with ⟨⟨e0, k1⟩, rfl⟩ | ⟨n', F', S', K', k1, -, k2, rfl⟩
    · exact (h1.no k1).elim
    · obtain ⟨rfl, rfl, rfl⟩ := h1.uniq k1
      exact eaL_same h2 k2
theorem liv_len {N : Int} {E : List (Int × Int)} {l : List Int} {L : List (Nat × Nat)} (h : LiV N E l L) : L.length ≤ 8192 := by
  rcases h with ⟨-, rfl⟩ | ⟨n, F, S, K, h1, h2, -, rfl⟩
  · simp
  · exact Nat.le_trans (eaL_tot h1.2.2.2.2 (fun v _ x hx => ndF_lt v x hx) K) h2
theorem ls_liv {N : Int} {E : List (Int × Int)} {l : List Int} {w w' : World} {e : Ending} (h : LsP N E l w e w') : ∃ (L : List (Nat × Nat)) (e0 : Nat) (o1 o2 : Option Addr) (m c1 c2 : Nat), e = .returned (.tuple #[.slice o1 m c1, .slice o2 m c2, .int .i64 (e0 : Int)]) ∧ m = L.length ∧ LiV N E l L ∧ Below w.heap.size w w' ∧ w'.ownsRow w.heap.size 3 1 (.slice o1 m c1) m (ik (L.map Prod.fst)).toList ∧ w'.ownsRow w.heap.size 3 1 (.slice o2 m c2) m (ik (L.map Prod.snd)).toList := by
  obtain ⟨hb, ⟨e0, h0, rfl, hE⟩ | ⟨n, F, S, K, o1, o2, m, c1, c2, h1, h2, h3, h4, h5, h6, h7, rfl, q1, q2⟩⟩ := h
  · exact ⟨[], e0, none, none, 0, 0, 0, rfl, rfl, .inl ⟨⟨e0, hE⟩, rfl⟩, hb, World.ownsRow_nil _ _ _ _, World.ownsRow_nil _ _ _ _⟩
  · refine ⟨_, 0, o1, o2, m, c1, c2, rfl, h7, .inr ⟨n, F, S, K, ⟨h1, h2, h3, h4, h5⟩, ?_, h6, rfl⟩, hb, q1, q2⟩
    obtain ⟨n', F', e1, e2, -⟩ := chk_ok h4
    omega
theorem each1_iter (w0 : World) (V : Nat → Array Value → World → Prop) (Da : Nat → Prop) : Rm.Iter Fence.wide 8 Try.prog 44 #[] 0 V (fun _ _ => False) (fun _ _ _ => True) w0 Da := by
  intro l J Jx W X0 hW hJ hJx hY h0 hX0 hX1
  have H := mkHid (show (∃ v, Ending.returned (Value.tuple #[]) = .returned v) ∧ ∃ X : Nat → Prop, (∀ k, X k → X0 k ∨ W.heap.size ≤ k) ∧ Rm.Frm X0 W W ∧ (J 0 X W ∨ Jx X W) from ⟨⟨_, rfl⟩, X0, fun _ h => .inl h, ⟨rfl, rfl, rfl, Nat.le_refl _, fun _ _ _ => rfl⟩, .inl h0⟩)
  clear hW hJ hJx hY h0 hX0 hX1
  refine callsIn_wide.2 ?_
  show Calls _ _ #[.func (.yield l) #[] #[]] W _
  go_enter Try.func44, Try.ntmps44
  go_wp2_with fail
  first
    | exact bodyPost_normal (results_none rfl _ _ _) rfl H.out
    | exact bodyPost_norm (results_none rfl _ _ _) rfl H.out
    | (go_ret; exact H.out)
    | exact ⟨_, results_none rfl _ _ _, H.out⟩
    | (refine ⟨rfl, _, results_none rfl _ _ _, H.out⟩)
set_option maxRecDepth 100000 in
set_option maxHeartbeats 1600000 in
theorem eachE_any (N : Int) (E : List (Int × Int)) (l : List Int) (v rv : Value) {g0 : Nat} (w : World) (hv : El v E w) (hR : Ia g0 rv l w) (hl0 : l.length < 1000000000) {e0 : Nat} (hk : CkE N E l e0) :
    Calls Try.prog 17 #[grV N v, rv] w fun e w' => e = .returned (.func (.func 44) #[] #[]) ∧ Below w.heap.size w w' := by
  obtain ⟨W0, hW0⟩ : ∃ W0, w.alloc (.cells #[.int .i64 N, v] 24) = W0 := ⟨_, rfl⟩
  have b0 : Below w.heap.size w W0 := by rw [← hW0]; exact (Below.refl _ w).alloc (Nat.le_refl _) _
  have r0 : W0.heap[w.heap.size]? = some (.cells #[.int .i64 N, v] 24 (0, 0)) := by rw [← hW0]; exact heap_alloc_new _ _
  have CC := hk.2 v rv g0 W0 (hv.below b0) (hR.below b0) hl0
  obtain ⟨kg, hkg⟩ : ∃ k, w.heap.size = k := ⟨_, rfl⟩
  have c0 : W0.cell? ⟨kg, 0, none⟩ = some (.int .i64 N) := by rw [← hkg]; exact (cell_of_row _ _ _ _ _ _ r0).trans rfl
  have c1 : W0.cell? ⟨kg, 1, none⟩ = some v := by rw [← hkg]; exact (cell_of_row _ _ _ _ _ _ r0).trans rfl
  obtain ⟨oo, cc, hvv, -⟩ := id hR
  subst hvv
  have hWW : Hid (w.alloc (.cells #[.int .i64 N, v] 24) = W0) := hW0
  have n0 : ((e0 : Int) == 0) = false := by have := hk.1; simpa using this
  have n1 : ¬ ((e0 : Int) = 0) := by have := hk.1; omega
  have HB := mkHid b0
  unfold grV at CC ⊢
  clear hW0 b0 r0 hv hR hk
  go_enter Try.func17, Try.ntmps17
  go_wp2_with fail
  rw [hWW.out]
  refine Calls.mono CC ?_
  rintro e W1 ⟨rfl, b1⟩
  have HB2 := mkHid (HB.out.trans (b1.mono HB.out.size))
  clear CC c0 c1 b1
  go_wp2_with fail
  go_ret
  exact ⟨rfl, HB2.out⟩
theorem eachC_all (N : Int) (E : List (Int × Int)) (l : List Int) (v rv : Value) {g0 : Nat} (w : World) (hv : El v E w) (hR : Ia g0 rv l w) (hl0 : l.length < 10000000) :
    Calls Try.prog 17 #[grV N v, rv] w fun e w' => ∃ L fv, e = .returned fv ∧ Below w.heap.size w w' ∧ Ech L fv w' ∧ LiV N E l L := by
  have nil {e0 : Nat} {w' : World} (hE : ErV N E l e0) (hb : Below w.heap.size w w') : ∃ L fv, Ending.returned (.func (.func 44) #[] #[]) = .returned fv ∧ Below w.heap.size w w' ∧ Ech L fv w' ∧ LiV N E l L :=
    ⟨[], _, rfl, hb, ⟨44, #[], fun _ => False, rfl, enters_of Try.func44 (by kernel_rfl) rfl, fun _ h => h.elim, each1_iter w' _ _⟩, .inl ⟨⟨e0, hE⟩, rfl⟩⟩
  by_cases h : (chk N E).1 = 0
  · obtain ⟨n, F, rfl, hn, rfl, hF, hl⟩ := chk_ok h
    cases h2 : okL n l with
    | false =>
      refine (eachE_any (n : Int) (zE F) l v rv w hv hR (by omega) (cke_no h h2)).mono ?_
      rintro e w' ⟨rfl, hb⟩
      exact nil (.inr ⟨h, by rw [Int.toNat_natCast]; exact h2, rfl⟩) hb
    | true =>
      obtain ⟨S, rfl, hS⟩ := okL_nat h2
      have hFF : ∀ v, v < n → ∀ x ∈ ndF n F v, x < n := fun v _ x hx => ndF_lt v x hx
      obtain ⟨K, k1, k2, k3⟩ := lyr_end (nd := ndF n F) (S := S) (N := n) hS hFF
      have hSl : S.length < 10000000 := by rw [List.length_map] at hl0; exact hl0
      refine (each_gen n hn F hF hl v w hv h (ia_il hR) hS trivial hSl).mono ?_
      rintro e w' ⟨a, b, g, gs, gv, V, sv, rfl, hb, hE⟩
      exact ⟨eaL (ndF n F) S K, _, rfl, hb, ⟨46, _, _, rfl, enters_of Try.func46 (by kernel_rfl) rfl, fun k hk => hk.2, each_iter 8 (by decide) hE (fun k hk => hk.2) (by omega) hS hFF hSl (fun v _ => by have := ndF_len (N := n) (E := F) v; omega) k2 k3 (by omega)⟩, .inr ⟨n, F, S, K, ⟨rfl, rfl, rfl, h, hS⟩, hn, k2, rfl⟩⟩
  · refine (eachE_any N E l v rv w hv hR (by omega) (cke_bad h)).mono ?_
    rintro e w' ⟨rfl, hb⟩
    exact nil (.inl ⟨h, rfl⟩) hb
end Go.Proofs.Ytgedmfcfhdfoeaa
