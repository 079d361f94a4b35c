/- The document's own Read. -/
import Derived.Test.YtkppejaigodgiabDoorRd
import Derived.Test.YtkppejaigodgiabDoorRfC
import Derived.Test.YtkppejaigodgiabDoorRfH
import Derived.Test.YtkppejaigodgiabDoorRf64
import Derived.Test.YtkppejaigodgiabDoorRf32
namespace Go.Proofs.YtkppejaigodgiabDoor
open Go.RowKit
/-- What both kinds of readers say. -/
def RdB (L : List Nat) (E : Nat × Nat) (w : World) (e : Ending) (w' : World) : Prop :=
  Below w.heap.size w w' ∧ ∃ v, e = .returned (.tuple #[v, .int .i64 ((E.1 : Nat) : Int), .int .i64 ((E.2 : Nat) : Int)]) ∧
    if E.1 = 0 then Byl v L w' else v = .slice none 0 0
theorem RdP.b {L : List Nat} {E : Nat × Nat} {w : World} {e : Ending} {w' : World} (h : RdP L E w e w') : RdB L E w e w' := by
  obtain ⟨h1, v, h2, h3⟩ := h
  refine ⟨h1, v, h2, ?_⟩
  by_cases h0 : E.1 = 0
  · rw [if_pos h0] at h3 ⊢; exact (byl_own h3).1
  · rw [if_neg h0] at h3 ⊢; exact h3
theorem byl_init {w : World} {g : Nat} {l : List Nat} {x : Nat} (h : w.heap[g]? = some (.cells (bs (l ++ [x])) 5 (0, 0))) (hm : l.length ≤ maxLen) : Byl (.slice (some ⟨g, 0, none⟩) l.length l.length) l w :=
  .inr ⟨g, 0, l.length, rfl, Nat.le_refl _, hm, (Array.getElem?_eq_some_iff.1 h).1, fun j hj => by
    rw [Nat.zero_add, cell_of_row w _ _ _ _ _ h, bs_get _ _ (by rw [List.length_append]; omega)]
    simp [List.getD, List.getElem?_append_left hj]⟩
theorem RdQ.b {L : List Nat} {E : Nat × Nat} {w : World} {e : Ending} {w' : World} (h : RdQ L E w e w') (hm : L.length ≤ maxLen) : RdB L E w e w' := by
  obtain ⟨h1, v, h2, h3⟩ := h
  refine ⟨h1, v, h2, ?_⟩
  by_cases h0 : E.1 = 0
  · rw [if_pos h0] at h3 ⊢
    obtain ⟨g, x, rfl, _, hg⟩ := h3
    exact byl_init hg hm
  · rw [if_neg h0] at h3 ⊢; exact h3
theorem run_cpb (w : World) (ty G : Nat) (l : List Nat) (hl : l.length = 32) (v : Value) (hG : w.heap[G]? = some (.cells (bs z32) 24 (0, 0))) (hv : Byl v l w) :
    (cpR ty #[.slice (some ⟨G, 0, none⟩) 32 32, v]).run Tryd.prog w = .ok (.int .i64 32) (w.setRow G (bs l)) := by
  have hlen : (bs l).toList.length = 32 := by rw [Array.length_toList, bs_size, hl]
  have hy := hv
  rcases hy with ⟨_, rfl⟩ | ⟨b, off, cap, rfl, h1, h2, h3, h4⟩
  · simp at hl
  · have := run_copy_row (P := Tryd.prog) w 22 22 ty 5 G 0 32 32 ⟨b, off, none⟩ l.length cap (bs z32) 24 (bs l).toList Tryd.underlying22 size5 hG (by rw [hlen, hl]; rfl) (fun j v hv => by
      have hj : j < 32 := by have := (List.getElem?_eq_some_iff.1 hv).1; omega
      rw [Addr.add_mid, h4 j (by omega)]
      rw [Array.getElem?_toList, bs_get _ _ (by omega)] at hv
      exact hv) (by rw [hlen, bs_size]; decide) (fun v hv => by
      rw [bs_toList] at hv
      obtain ⟨x, _, rfl⟩ := List.mem_map.1 hv
      rfl)
    unfold cpR
    rw [this, hlen]
    have e : ((bs z32).toList.take 0 ++ (bs l).toList ++ (bs z32).toList.drop (0 + 32)).toArray = bs l := by
      apply Array.ext'
      simp [bs, z32]
    rw [e]
    rfl
def colonA : ByteArray := ⟨#[115, 104, 97, 50, 53, 54, 58]⟩
def dashA : ByteArray := ⟨#[115, 104, 97, 50, 53, 54, 45]⟩
theorem tl_colonA : tl colonA = colonL := by decide +kernel
theorem tl_dashA : tl dashA = dashL := by decide +kernel
theorem pre_excl (t : List Nat) : ¬ (shL t colonL = 7 ∧ shL t dashL = 7) := by
  rintro ⟨h1, h2⟩
  have e1 := pre_drop ((shL_pre t colonL).1 h1)
  have e2 := pre_drop ((shL_pre t dashL).1 h2)
  have := e1.symm.trans e2
  simp [colonL, dashL] at this
theorem fm_sh (t : List Nat) : fmL t = if shL t dashL = 7 ∧ t.length = 51 then some 2 else if shL t colonL = 7 ∧ t.length = 71 then some 0 else if shL t colonL = 7 ∧ t.length = 59 then some 1 else none := by
  have h1 : shL t colonL = 7 ↔ _ := shL_pre t colonL
  have h2 : shL t dashL = 7 ↔ _ := shL_pre t dashL
  unfold fmL
  simp only [h1, h2]
attribute [local go_sem ↓] toLd toSt toBd toCp
set_option maxRecDepth 100000 in
set_option maxHeartbeats 3200000 in
theorem readR_any (s : ByteArray) (hs : s.size ≤ 1099511627776) (w : World) :
    Calls Tryd.prog 27 #[.string s] w fun e w' => e = .returned (four (rdV (tl s))) ∧ Below w.heap.size w w' := by
  obtain ⟨W0, hW0⟩ : ∃ W0, w.alloc (.cells #[.int .u8 0, .int .u8 0, .int .u8 0, .int .u8 0, .int .u8 0, .int .u8 0, .int .u8 0, .int .u8 0, .int .u8 0, .int .u8 0, .int .u8 0, .int .u8 0, .int .u8 0, .int .u8 0, .int .u8 0, .int .u8 0, .int .u8 0, .int .u8 0, .int .u8 0, .int .u8 0, .int .u8 0, .int .u8 0, .int .u8 0, .int .u8 0, .int .u8 0, .int .u8 0, .int .u8 0, .int .u8 0, .int .u8 0, .int .u8 0, .int .u8 0, .int .u8 0] 24) = W0 := ⟨_, rfl⟩
  obtain ⟨WA, hWA⟩ : ∃ WA, W0.alloc (.cells #[.int .u8 0, .int .u8 0, .int .u8 0, .int .u8 0, .int .u8 0, .int .u8 0, .int .u8 0, .int .u8 0, .int .u8 0, .int .u8 0, .int .u8 0, .int .u8 0, .int .u8 0, .int .u8 0, .int .u8 0, .int .u8 0, .int .u8 0, .int .u8 0, .int .u8 0, .int .u8 0, .int .u8 0, .int .u8 0, .int .u8 0, .int .u8 0, .int .u8 0, .int .u8 0, .int .u8 0, .int .u8 0, .int .u8 0, .int .u8 0, .int .u8 0, .int .u8 0] 24) = WA := ⟨_, rfl⟩
  obtain ⟨G, hG⟩ : ∃ G, w.heap.size = G := ⟨_, rfl⟩
  have hZ0 : W0.heap.size = G + 1 := by rw [← hW0, ← hG]; simp
  have HA : Hid (Below G w WA ∧ WA.heap[G]? = some (.cells (bs z32) 24 (0, 0)) ∧ WA.heap[G + 1]? = some (.cells (bs z32) 24 (0, 0)) ∧ G + 1 < WA.heap.size) := by
    have a0 : Below w.heap.size w W0 ∧ W0.heap[w.heap.size]? = some (.cells (bs z32) 24 (0, 0)) := by
      rw [← hW0]
      exact ⟨(Below.refl _ w).alloc (Nat.le_refl _) _, heap_alloc_new _ _⟩
    rw [hG] at a0
    rw [← hWA, ← hZ0]
    exact ⟨a0.1.alloc (by omega) _, (heap_alloc_old _ _ (h := by omega)).trans a0.2, heap_alloc_new _ _, by simp⟩
  have CC : Hid (∀ W, Calls Tryd.prog 51 #[.string s, .string colonA] W fun e w' => e = .returned (.int .i64 ((shL (tl s) colonL : Nat) : Int)) ∧ Below W.heap.size W w') := fun W => by
    have := common_any s colonA (by omega) (by decide) W
    rw [tl_colonA] at this
    exact this
  have CD : Hid (∀ W, Calls Tryd.prog 51 #[.string s, .string dashA] W fun e w' => e = .returned (.int .i64 ((shL (tl s) dashL : Nat) : Int)) ∧ Below W.heap.size W w') := fun W => by
    have := common_any s dashA (by omega) (by decide) W
    rw [tl_dashA] at this
    exact this
  have HEx := pre_excl (tl s)
  have HFm := fm_sh (tl s)
  have hc7 : shL (tl s) colonL ≤ 7 ∧ shL (tl s) colonL ≤ s.size := by have := shL_le (tl s) colonL; rw [tl_len] at this; exact ⟨this.2, this.1⟩
  have hd7 : shL (tl s) dashL ≤ 7 ∧ shL (tl s) dashL ≤ s.size := by have := shL_le (tl s) dashL; rw [tl_len] at this; exact ⟨this.2, this.1⟩
  rw [tl_len] at HFm
  obtain ⟨a, ha⟩ : ∃ a, a = rdV (tl s) := ⟨_, rfl⟩
  rw [← ha]
  have HR : Hid (a = match fmL (tl s) with
    | none => (z32, 0, 12, max (shL (tl s) colonL) (shL (tl s) dashL))
    | some f => if ¬ (unF f ((tl s).drop 7)).2.1 = 0 then (z32, 0, (unF f ((tl s).drop 7)).2.1, (unF f ((tl s).drop 7)).2.2 + 7) else if ¬ (unF f ((tl s).drop 7)).1.length = 32 then (z32, 0, 12, 7) else ((unF f ((tl s).drop 7)).1, f, 0, 0)) := by rw [ha]; rfl
  clear ha
  revert CC CD HEx HFm hc7 hd7 HR
  generalize shL (tl s) colonL = C
  generalize shL (tl s) dashL = D
  intro CC CD HEx HFm hc7 hd7 HR
  have END : Hid (∀ (W : World), Below WA.heap.size WA W → (ldR (.pointer (some ⟨G + 1, 0, none⟩))).run Tryd.prog W = .ok (.agg (bs z32)) W ∧ (stR (.pointer (some ⟨G, 0, none⟩)) (.agg (bs z32))).run Tryd.prog W = .ok () (W.setRow G (bs z32)) ∧ Hid ((W.setRow G (bs z32)).heap[G]? = some (.cells (bs z32) 24 (0, 0)) ∧ Below G w (W.setRow G (bs z32)))) := fun W hb => by
    obtain ⟨h1, h2, h3, h4⟩ := HA.out
    have e1 := (hb.block G (by omega)).trans h2
    have e2 := (hb.block (G + 1) (by omega)).trans h3
    exact ⟨run_ld W _ z32 e2 rfl, run_st W G z32 z32 e1 rfl rfl, setRow_heap _ _ _ _ _ _ e1, below_setRow (h1.trans (hb.mono (by omega))) (Nat.le_refl _) _⟩
  rw [hG]
  go_enter Tryd.func27, Tryd.ntmps27
  go_wp2_with fail
  refine (CC.out WA).mono ?_
  rintro e W1 ⟨rfl, b1⟩
  clear hWA hW0
  go_wp2_with fail
  refine (CD.out W1).mono ?_
  rintro e W2 ⟨rfl, b2⟩
  have B2 : Hid (Below WA.heap.size WA W2) := b1.trans (b2.mono b1.size)
  clear b1 b2 CC CD
  by_cases hno : C < 7 ∧ D < 7
  · obtain ⟨h1, h2⟩ := hno
    have h1' : (C : Int) < 7 := by omega
    have h2' : (D : Int) < 7 := by omega
    have hf : fmL (tl s) = none := by rw [HFm, if_neg (by omega), if_neg (by omega), if_neg (by omega)]
    rw [hf] at HR
    obtain ⟨ld, st, HF⟩ := END.out W2 B2.out
    clear HFm HEx hf
    by_cases hcd : C < D
    · have hcd' : (C : Int) < (D : Int) := by omega
      have hE : Hid (a = (z32, 0, 12, D)) := by show _ = _; rw [HR.out, show max C D = D by omega]
      clear HR
      go_wp2
      exact bodyPost_ret (res4 rfl _ _ G z32 rfl rfl HF.out.1) rfl ⟨by rw [hE.out]; rfl, HF.out.2⟩
    · have hcd' : ¬ ((C : Int) < (D : Int)) := by omega
      have hE : Hid (a = (z32, 0, 12, C)) := by show _ = _; rw [HR.out, show max C D = C by omega]
      clear HR
      go_wp2
      exact bodyPost_ret (res4 rfl _ _ G z32 rfl rfl HF.out.1) rfl ⟨by rw [hE.out]; rfl, HF.out.2⟩
  · have hor : C = 7 ∨ D = 7 := by omega
    have h7 : 7 ≤ s.size := by omega
    have h7' : (7 : Int) ≤ (s.size : Int) := by omega
    have hmx : max C D = 7 := by omega
    obtain ⟨r, hr⟩ : ∃ r, s.extract 7 s.size = r := ⟨_, rfl⟩
    have hrz : r.size = s.size - 7 := by rw [← hr, ByteArray.size_extract]; omega
    have htr : tl r = (tl s).drop 7 := by rw [← hr]; exact tl_drop s 7 h7
    rw [hmx] at HR
    have hrs : r.size ≤ 1099511627776 := by omega
    have NONE : fmL (tl s) = none → Hid (a = (z32, 0, 12, 7)) := fun h => by rw [h] at HR; exact HR
    have SOME : ∀ f, fmL (tl s) = some f → Hid (a = if ¬ (unF f (tl r)).2.1 = 0 then (z32, 0, (unF f (tl r)).2.1, (unF f (tl r)).2.2 + 7) else if ¬ (unF f (tl r)).1.length = 32 then (z32, 0, 12, 7) else ((unF f (tl r)).1, f, 0, 0)) := fun f h => by rw [h, ← htr] at HR; exact HR
    obtain ⟨ld2, st2, HF2⟩ := END.out W2 B2.out
    have HP : Hid (∀ f, (unF f (tl r)).2.2 ≤ 1099511627776) := fun f => by have := unF_place f (tl r); rw [tl_len] at this; omega
    clear HR hmx htr hno
    by_cases hD : D = 7
    · have hC : ¬ C = 7 := fun h => HEx ⟨h, hD⟩
      have hCl : (C : Int) < 7 := by omega
      have hCe : ¬ ((C : Int) = 7) := by omega
      subst hD
      by_cases hz : r.size = 44
      · have hz' : (r.size : Int) = 44 := by omega
        have HV := SOME 2 (by rw [HFm, if_pos ⟨rfl, by omega⟩])
        have CF : Hid (Calls Tryd.prog 50 #[.string r] W2 (RdB (unF 2 (tl r)).1 (unF 2 (tl r)).2 W2)) := (un64R_any r hrs W2).mono fun _ _ h => h.b
        have HP := HP.out 2
        clear SOME NONE HEx HFm hc7 hd7 hC hor hz hrz
        generalize unF 2 (tl r) = u at HV CF HP
        obtain ⟨L, E, P⟩ := u
        go_wp2_with fail
        refine CF.out.mono ?_
        rintro e W3 ⟨b3, v, rfl, hv⟩
        have B3 : Hid (Below WA.heap.size WA W3) := B2.out.trans (b3.mono B2.out.size)
        have hP7 : IntKind.i64.wrap (7 + (P : Int)) = ((P + 7 : Nat) : Int) := by have : P ≤ 1099511627776 := HP; rw [IntKind.wrap_i64]; omega
        have hP7' : 7 + (P : Int) = ((P + 7 : Nat) : Int) := by omega
        clear ld2 st2 HF2 b3 CF
        by_cases hE0 : E = 0
        · subst hE0
          have hv' : Byl v L W3 := hv
          obtain ⟨o, c, rfl, _, _, _⟩ := hv'.form
          have HO : Hid (Byl (.slice o L.length c) L W3) := hv'
          clear hv hv'
          by_cases h32 : L.length = 32
          · have hE : Hid (a = (L, 2, 0, 0)) := by show _ = _; rw [HV.out]; simp [h32]
            obtain ⟨W4, hW4⟩ : ∃ W4, W3.alloc (.cells #[.int .u8 0, .int .u8 0, .int .u8 0, .int .u8 0, .int .u8 0, .int .u8 0, .int .u8 0, .int .u8 0, .int .u8 0, .int .u8 0, .int .u8 0, .int .u8 0, .int .u8 0, .int .u8 0, .int .u8 0, .int .u8 0, .int .u8 0, .int .u8 0, .int .u8 0, .int .u8 0, .int .u8 0, .int .u8 0, .int .u8 0, .int .u8 0, .int .u8 0, .int .u8 0, .int .u8 0, .int .u8 0, .int .u8 0, .int .u8 0, .int .u8 0, .int .u8 0] 24) = W4 := ⟨_, rfl⟩
            have H4 : Hid (Below WA.heap.size WA W4 ∧ W4.heap[W3.heap.size]? = some (.cells (bs z32) 24 (0, 0)) ∧ Byl (.slice o L.length c) L W4) := by
              rw [← hW4]
              exact ⟨B3.out.alloc B3.out.size _, heap_alloc_new _ _, HO.out.below ((Below.refl _ _).alloc (Nat.le_refl _) _)⟩
            have cp := fun ty => run_cpb W4 ty W3.heap.size L h32 _ H4.out.2.1 H4.out.2.2
            obtain ⟨W5, hW5⟩ : ∃ W, W = W4.setRow W3.heap.size (bs L) := ⟨_, rfl⟩
            have hlt : G + 1 < WA.heap.size := HA.out.2.2.2
            have hz3 := B3.out.size
            have H5 : Hid (W5.heap[G]? = some (.cells (bs z32) 24 (0, 0)) ∧ Below G w W5) := by
              rw [hW5]
              refine ⟨(setRow_other _ _ _ _ (by omega)).trans ((H4.out.1.block G (by omega)).trans HA.out.2.1), below_setRow (HA.out.1.trans (H4.out.1.mono (by omega))) (by omega) _⟩
            have ld : (ldR (.pointer (some ⟨W3.heap.size, 0, none⟩))).run Tryd.prog W5 = .ok (.agg (bs L)) W5 := by
              rw [hW5]; exact run_ld _ _ L (setRow_heap _ _ _ _ _ _ H4.out.2.1) h32
            have st := run_st W5 G z32 L H5.out.1 rfl h32
            have HF : Hid ((W5.setRow G (bs L)).heap[G]? = some (.cells (bs L) 24 (0, 0)) ∧ Below G w (W5.setRow G (bs L))) := ⟨setRow_heap _ _ _ _ _ _ H5.out.1, below_setRow H5.out.2 (Nat.le_refl _) _⟩
            rw [← hW5] at cp
            rw [h32] at cp ⊢
            clear hW5 HV HO
            go_wp2
            exact bodyPost_ret (res4 rfl _ _ G L h32 rfl HF.out.1) rfl ⟨by rw [hE.out]; rfl, HF.out.2⟩
          · have h32' : ¬ ((L.length : Int) = 32) := by omega
            have hE : Hid (a = (z32, 0, 12, 7)) := by show _ = _; rw [HV.out]; simp [h32]
            obtain ⟨ld, st, HF⟩ := END.out W3 B3.out
            clear HV HO
            go_wp2
            exact bodyPost_ret (res4 rfl _ _ G z32 rfl rfl HF.out.1) rfl ⟨by rw [hE.out]; rfl, HF.out.2⟩
        · have hE0' : ¬ ((E : Int) = 0) := by omega
          have hv' : v = .slice none 0 0 := by rw [if_neg hE0] at hv; exact hv
          have hE : Hid (a = (z32, 0, E, P + 7)) := by show _ = _; rw [HV.out]; simp [hE0]
          obtain ⟨ld, st, HF⟩ := END.out W3 B3.out
          clear HV hv
          go_wp2
          exact bodyPost_ret (res4 rfl _ _ G z32 rfl rfl HF.out.1) rfl ⟨by rw [hE.out]; rfl, HF.out.2⟩
      · have hz' : ¬ ((r.size : Int) = 44) := by omega
        have hE := NONE (by rw [HFm, if_neg (by omega), if_neg (by omega), if_neg (by omega)])
        clear SOME NONE HEx HFm hc7 hd7 hC hor hz hrz
        go_wp2
        exact bodyPost_ret (res4 rfl _ _ G z32 rfl rfl HF2.out.1) rfl ⟨by rw [hE.out]; rfl, HF2.out.2⟩
    · have hC : C = 7 := by omega
      have hDl : (D : Int) < 7 := by omega
      have hDe : ¬ ((D : Int) = 7) := by omega
      subst hC
      by_cases hz : r.size = 64
      · have hz' : (r.size : Int) = 64 := by omega
        have HV := SOME 0 (by rw [HFm, if_neg (by omega), if_pos ⟨rfl, by omega⟩])
        have CF : Hid (Calls Tryd.prog 46 #[.string r] W2 (RdB (unF 0 (tl r)).1 (unF 0 (tl r)).2 W2)) := (unhexR_any r hrs W2).mono fun _ _ h => h.b
        have HP := HP.out 0
        clear SOME NONE HEx HFm hc7 hd7 hD hor hz hrz
        generalize unF 0 (tl r) = u at HV CF HP
        obtain ⟨L, E, P⟩ := u
        go_wp2_with fail
        refine CF.out.mono ?_
        rintro e W3 ⟨b3, v, rfl, hv⟩
        have B3 : Hid (Below WA.heap.size WA W3) := B2.out.trans (b3.mono B2.out.size)
        have hP7 : IntKind.i64.wrap (7 + (P : Int)) = ((P + 7 : Nat) : Int) := by have : P ≤ 1099511627776 := HP; rw [IntKind.wrap_i64]; omega
        have hP7' : 7 + (P : Int) = ((P + 7 : Nat) : Int) := by omega
        clear ld2 st2 HF2 b3 CF
        by_cases hE0 : E = 0
        · subst hE0
          have hv' : Byl v L W3 := hv
          obtain ⟨o, c, rfl, _, _, _⟩ := hv'.form
          have HO : Hid (Byl (.slice o L.length c) L W3) := hv'
          clear hv hv'
          by_cases h32 : L.length = 32
          · have hE : Hid (a = (L, 0, 0, 0)) := by show _ = _; rw [HV.out]; simp [h32]
            obtain ⟨W4, hW4⟩ : ∃ W4, W3.alloc (.cells #[.int .u8 0, .int .u8 0, .int .u8 0, .int .u8 0, .int .u8 0, .int .u8 0, .int .u8 0, .int .u8 0, .int .u8 0, .int .u8 0, .int .u8 0, .int .u8 0, .int .u8 0, .int .u8 0, .int .u8 0, .int .u8 0, .int .u8 0, .int .u8 0, .int .u8 0, .int .u8 0, .int .u8 0, .int .u8 0, .int .u8 0, .int .u8 0, .int .u8 0, .int .u8 0, .int .u8 0, .int .u8 0, .int .u8 0, .int .u8 0, .int .u8 0, .int .u8 0] 24) = W4 := ⟨_, rfl⟩
            have H4 : Hid (Below WA.heap.size WA W4 ∧ W4.heap[W3.heap.size]? = some (.cells (bs z32) 24 (0, 0)) ∧ Byl (.slice o L.length c) L W4) := by
              rw [← hW4]
              exact ⟨B3.out.alloc B3.out.size _, heap_alloc_new _ _, HO.out.below ((Below.refl _ _).alloc (Nat.le_refl _) _)⟩
            have cp := fun ty => run_cpb W4 ty W3.heap.size L h32 _ H4.out.2.1 H4.out.2.2
            obtain ⟨W5, hW5⟩ : ∃ W, W = W4.setRow W3.heap.size (bs L) := ⟨_, rfl⟩
            have hlt : G + 1 < WA.heap.size := HA.out.2.2.2
            have hz3 := B3.out.size
            have H5 : Hid (W5.heap[G]? = some (.cells (bs z32) 24 (0, 0)) ∧ Below G w W5) := by
              rw [hW5]
              refine ⟨(setRow_other _ _ _ _ (by omega)).trans ((H4.out.1.block G (by omega)).trans HA.out.2.1), below_setRow (HA.out.1.trans (H4.out.1.mono (by omega))) (by omega) _⟩
            have ld : (ldR (.pointer (some ⟨W3.heap.size, 0, none⟩))).run Tryd.prog W5 = .ok (.agg (bs L)) W5 := by
              rw [hW5]; exact run_ld _ _ L (setRow_heap _ _ _ _ _ _ H4.out.2.1) h32
            have st := run_st W5 G z32 L H5.out.1 rfl h32
            have HF : Hid ((W5.setRow G (bs L)).heap[G]? = some (.cells (bs L) 24 (0, 0)) ∧ Below G w (W5.setRow G (bs L))) := ⟨setRow_heap _ _ _ _ _ _ H5.out.1, below_setRow H5.out.2 (Nat.le_refl _) _⟩
            rw [← hW5] at cp
            rw [h32] at cp ⊢
            clear hW5 HV HO
            go_wp2
            exact bodyPost_ret (res4 rfl _ _ G L h32 rfl HF.out.1) rfl ⟨by rw [hE.out]; rfl, HF.out.2⟩
          · have h32' : ¬ ((L.length : Int) = 32) := by omega
            have hE : Hid (a = (z32, 0, 12, 7)) := by show _ = _; rw [HV.out]; simp [h32]
            obtain ⟨ld, st, HF⟩ := END.out W3 B3.out
            clear HV HO
            go_wp2
            exact bodyPost_ret (res4 rfl _ _ G z32 rfl rfl HF.out.1) rfl ⟨by rw [hE.out]; rfl, HF.out.2⟩
        · have hE0' : ¬ ((E : Int) = 0) := by omega
          have hv' : v = .slice none 0 0 := by rw [if_neg hE0] at hv; exact hv
          have hE : Hid (a = (z32, 0, E, P + 7)) := by show _ = _; rw [HV.out]; simp [hE0]
          obtain ⟨ld, st, HF⟩ := END.out W3 B3.out
          clear HV hv
          go_wp2
          exact bodyPost_ret (res4 rfl _ _ G z32 rfl rfl HF.out.1) rfl ⟨by rw [hE.out]; rfl, HF.out.2⟩
      · have hz' : ¬ ((r.size : Int) = 64) := by omega
        by_cases hy : r.size = 52
        · have hy' : (r.size : Int) = 52 := by omega
          have HV := SOME 1 (by rw [HFm, if_neg (by omega), if_neg (by omega), if_pos ⟨rfl, by omega⟩])
          have CF : Hid (Calls Tryd.prog 49 #[.string r] W2 (RdB (unF 1 (tl r)).1 (unF 1 (tl r)).2 W2)) := (un32R_any r hrs W2).mono fun _ _ h => h.b (by unfold v32V; rw [byts_len, tl_len]; unfold maxLen; omega)
          have HP := HP.out 1
          clear SOME NONE HEx HFm hc7 hd7 hD hor hz hrz hy
          generalize unF 1 (tl r) = u at HV CF HP
          obtain ⟨L, E, P⟩ := u
          go_wp2_with fail
          refine CF.out.mono ?_
          rintro e W3 ⟨b3, v, rfl, hv⟩
          have B3 : Hid (Below WA.heap.size WA W3) := B2.out.trans (b3.mono B2.out.size)
          have hP7 : IntKind.i64.wrap (7 + (P : Int)) = ((P + 7 : Nat) : Int) := by have : P ≤ 1099511627776 := HP; rw [IntKind.wrap_i64]; omega
          have hP7' : 7 + (P : Int) = ((P + 7 : Nat) : Int) := by omega
          clear ld2 st2 HF2 b3 CF
          by_cases hE0 : E = 0
          · subst hE0
            have hv' : Byl v L W3 := hv
            obtain ⟨o, c, rfl, _, _, _⟩ := hv'.form
            have HO : Hid (Byl (.slice o L.length c) L W3) := hv'
            clear hv hv'
            by_cases h32 : L.length = 32
            · have hE : Hid (a = (L, 1, 0, 0)) := by show _ = _; rw [HV.out]; simp [h32]
              obtain ⟨W4, hW4⟩ : ∃ W4, W3.alloc (.cells #[.int .u8 0, .int .u8 0, .int .u8 0, .int .u8 0, .int .u8 0, .int .u8 0, .int .u8 0, .int .u8 0, .int .u8 0, .int .u8 0, .int .u8 0, .int .u8 0, .int .u8 0, .int .u8 0, .int .u8 0, .int .u8 0, .int .u8 0, .int .u8 0, .int .u8 0, .int .u8 0, .int .u8 0, .int .u8 0, .int .u8 0, .int .u8 0, .int .u8 0, .int .u8 0, .int .u8 0, .int .u8 0, .int .u8 0, .int .u8 0, .int .u8 0, .int .u8 0] 24) = W4 := ⟨_, rfl⟩
              have H4 : Hid (Below WA.heap.size WA W4 ∧ W4.heap[W3.heap.size]? = some (.cells (bs z32) 24 (0, 0)) ∧ Byl (.slice o L.length c) L W4) := by
                rw [← hW4]
                exact ⟨B3.out.alloc B3.out.size _, heap_alloc_new _ _, HO.out.below ((Below.refl _ _).alloc (Nat.le_refl _) _)⟩
              have cp := fun ty => run_cpb W4 ty W3.heap.size L h32 _ H4.out.2.1 H4.out.2.2
              obtain ⟨W5, hW5⟩ : ∃ W, W = W4.setRow W3.heap.size (bs L) := ⟨_, rfl⟩
              have hlt : G + 1 < WA.heap.size := HA.out.2.2.2
              have hz3 := B3.out.size
              have H5 : Hid (W5.heap[G]? = some (.cells (bs z32) 24 (0, 0)) ∧ Below G w W5) := by
                rw [hW5]
                refine ⟨(setRow_other _ _ _ _ (by omega)).trans ((H4.out.1.block G (by omega)).trans HA.out.2.1), below_setRow (HA.out.1.trans (H4.out.1.mono (by omega))) (by omega) _⟩
              have ld : (ldR (.pointer (some ⟨W3.heap.size, 0, none⟩))).run Tryd.prog W5 = .ok (.agg (bs L)) W5 := by
                rw [hW5]; exact run_ld _ _ L (setRow_heap _ _ _ _ _ _ H4.out.2.1) h32
              have st := run_st W5 G z32 L H5.out.1 rfl h32
              have HF : Hid ((W5.setRow G (bs L)).heap[G]? = some (.cells (bs L) 24 (0, 0)) ∧ Below G w (W5.setRow G (bs L))) := ⟨setRow_heap _ _ _ _ _ _ H5.out.1, below_setRow H5.out.2 (Nat.le_refl _) _⟩
              rw [← hW5] at cp
              rw [h32] at cp ⊢
              clear hW5 HV HO
              go_wp2
              exact bodyPost_ret (res4 rfl _ _ G L h32 rfl HF.out.1) rfl ⟨by rw [hE.out]; rfl, HF.out.2⟩
            · have h32' : ¬ ((L.length : Int) = 32) := by omega
              have hE : Hid (a = (z32, 0, 12, 7)) := by show _ = _; rw [HV.out]; simp [h32]
              obtain ⟨ld, st, HF⟩ := END.out W3 B3.out
              clear HV HO
              go_wp2
              exact bodyPost_ret (res4 rfl _ _ G z32 rfl rfl HF.out.1) rfl ⟨by rw [hE.out]; rfl, HF.out.2⟩
          · have hE0' : ¬ ((E : Int) = 0) := by omega
            have hv' : v = .slice none 0 0 := by rw [if_neg hE0] at hv; exact hv
            have hE : Hid (a = (z32, 0, E, P + 7)) := by show _ = _; rw [HV.out]; simp [hE0]
            obtain ⟨ld, st, HF⟩ := END.out W3 B3.out
            clear HV hv
            go_wp2
            exact bodyPost_ret (res4 rfl _ _ G z32 rfl rfl HF.out.1) rfl ⟨by rw [hE.out]; rfl, HF.out.2⟩
        · have hy' : ¬ ((r.size : Int) = 52) := by omega
          have hE := NONE (by rw [HFm, if_neg (by omega), if_neg (by omega), if_neg (by omega)])
          clear SOME NONE HEx HFm hc7 hd7 hD hor hz hrz hy
          go_wp2
          exact bodyPost_ret (res4 rfl _ _ G z32 rfl rfl HF2.out.1) rfl ⟨by rw [hE.out]; rfl, HF2.out.2⟩
end Go.Proofs.YtkppejaigodgiabDoor
