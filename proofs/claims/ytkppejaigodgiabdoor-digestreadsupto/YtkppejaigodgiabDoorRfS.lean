/- The law's hoard: what stands leaves, in memory. -/
import Derived.Test.YtkppejaigodgiabDoorRfD
import Derived.Test.YtkppejaigodgiabDoorApt
namespace Go.Proofs.YtkppejaigodgiabDoor
open Go.RowKit
/-- As Kp, without the copies. -/
structure Kq (g : Nat) (vl vw : Value) (xs ws : List Value) (ls : List (List Nat)) (w : World) : Prop where
  hd : Hd g vl vw xs ws w
  len : xs.length = ls.length
  own : ∀ (i : Nat) x l, xs[i]? = some x → ls[i]? = some l → w.ownsRow (g + 1) 5 1 x l.length (bs l).toList
  apl : ∀ (i : Nat) x k, xs[i]? = some x → x.ownBlock = some k → k < w.heap.size ∧ k ≠ g ∧ ¬ vl.ownBlock = some k ∧ ¬ vw.ownBlock = some k
  xx : ∀ (i j : Nat) x y k, xs[i]? = some x → xs[j]? = some y → x.ownBlock = some k → y.ownBlock = some k → i = j
theorem Kp.q {g : Nat} {vl vw : Value} {xs ws : List Value} {ls : List (List Nat)} {w : World} (h : Kp g vl vw xs ws ls w) : Kq g vl vw xs ws ls w := ⟨h.hd, h.len, h.own, h.apl, h.xx⟩
theorem Hd.at {g : Nat} {vl vw : Value} {xs ws : List Value} {w : World} (h : Hd g vl vw xs ws w) : ∃ o c, vl = .slice o xs.length c := own_slice h.l
/-- A row that is owned, where it is not empty. -/
theorem own_form {w : World} {B e n : Nat} {o : Option Addr} {m c : Nat} {xs : List Value} (h : w.ownsRow B e 1 (.slice o m c) n xs) (hn : 0 < n) :
    ∃ b, o = some ⟨b, 0, none⟩ ∧ m = n ∧ B ≤ b ∧ b < w.heap.size ∧ ∀ (j : Nat) x, xs[j]? = some x → w.cell? ⟨b, j, none⟩ = some x := by
  obtain ⟨h0, ⟨h1, rfl⟩ | ⟨g, cap, cur, h2, h3, h4, h5, h6, h7, h8⟩⟩ := h
  · omega
  · simp only [Value.slice.injEq] at h2
    obtain ⟨rfl, rfl, rfl⟩ := h2
    refine ⟨g, rfl, rfl, h3, (Array.getElem?_eq_some_iff.1 h4).1, fun j x hx => ?_⟩
    rw [cell_of_row w _ _ _ _ _ h4, ← Array.getElem?_toList]
    rw [← h8, List.getElem?_take] at hx
    split at hx
    · exact hx
    · cases hx
theorem kq_set {g : Nat} {vl vw : Value} {xs ws : List Value} {ls : List (List Nat)} {w : World} (K : Kq g vl vw xs ws ls w) {i b n c : Nat} {l : List Nat} (hx : xs[i]? = some (.slice (some ⟨b, 0, none⟩) n c)) (hl : ls[i]? = some l) (k v : Nat) (hk : k < n) :
    Kq g vl vw xs ws (ls.set i (l.set k v)) (w.setCell ⟨b, k, none⟩ (.int .u8 (v : Int))) ∧ (∃ u, w.cell? ⟨b, k, none⟩ = some u) ∧ w.frozen? ⟨b, k, none⟩ = false ∧ g < b := by
  have ho := K.own i _ l hx hl
  have ha := K.apl i _ b hx rfl
  have hlt := ho.lt b rfl
  have O : Own (g + 1) w.heap.size (.slice (some ⟨b, 0, none⟩) n c) l w := ⟨ho, fun k hk => (ho.lt k hk).2⟩
  obtain ⟨O1, h1, h2⟩ := own_set O k v hk
  have hne : ∀ j, j ≠ b → (w.setCell ⟨b, k, none⟩ (.int .u8 (v : Int))).heap[j]? = w.heap[j]? := fun j hj => heap_setCell_other _ _ _ _ hj
  have hsz : (w.setCell ⟨b, k, none⟩ (.int .u8 (v : Int))).heap.size = w.heap.size := by simp [World.setCell]
  refine ⟨⟨⟨(hne g (by omega)).trans K.hd.row, own_keep K.hd.l fun j hj => hne j (fun h => by subst h; exact ha.2.2.1 hj), own_keep K.hd.w fun j hj => hne j (fun h => by subst h; exact ha.2.2.2 hj), K.hd.ne⟩, by rw [List.length_set]; exact K.len, ?_, ?_, K.xx⟩, h1, h2, by omega⟩
  · intro j x m hj hm
    by_cases hij : i = j
    · subst hij
      rw [hx] at hj
      have : x = _ := (Option.some.inj hj).symm
      subst this
      have hil : i < ls.length := (List.getElem?_eq_some_iff.1 hl).1
      rw [List.getElem?_set_self hil] at hm
      rw [← Option.some.inj hm]
      exact O1.row
    · rw [List.getElem?_set_ne hij] at hm
      exact own_keep (K.own j x m hj hm) fun q hq => hne q (fun h => by subst h; exact hij (K.xx i j _ x q hx hj rfl hq))
  · intro j x q hj hq
    have := K.apl j x q hj hq
    exact ⟨by rw [hsz]; exact this.1, this.2⟩
/-- One list gone on with by k bytes. -/
structure Gs (B : Nat) (x u : Value) (l : List Nat) (k b : Nat) (w0 w : World) : Prop where
  row : w.ownsRow B 5 1 u (l.length + k) (bs (l ++ List.replicate k b)).toList
  blk : ∀ j, u.ownBlock = some j → x.ownBlock = some j ∨ w0.heap.size ≤ j
  byl : Byl x l w
  os : w.os = w0.os
  tape : w.tape = w0.tape
  out : w.output = w0.output
  size : w0.heap.size ≤ w.heap.size
  oth : ∀ j, j < w0.heap.size → ¬ x.ownBlock = some j → w.heap[j]? = w0.heap[j]?
theorem Gs.zero {B : Nat} {x : Value} {l : List Nat} {w : World} (b : Nat) (h : w.ownsRow B 5 1 x l.length (bs l).toList) : Gs B x x l 0 b w w :=
  ⟨by rw [List.replicate_zero, List.append_nil]; exact h, fun j hj => .inl hj, (byl_own h).1, rfl, rfl, rfl, Nat.le_refl _, fun _ _ _ => rfl⟩
theorem Gs.step {B : Nat} {x u : Value} {l : List Nat} {k b : Nat} {w0 w : World} (h : Gs B x u l k b w0 w) (hB : B ≤ w0.heap.size) (hl : l.length + k + 1 ≤ 140737488355328)
    (HF : (x = .slice none 0 0 ∧ l = []) ∨ ∃ g c, x = .slice (some ⟨g, 0, none⟩) l.length c ∧ l.length ≤ c ∧ c ≤ maxLen) :
    ∃ v1 w1, (appR 22 #[u, .slice (some ⟨w.heap.size, 0, none⟩) 1 1]).run Tryd.prog (w.alloc (.cells #[.int .u8 (b : Int)] 5)) = .ok v1 w1 ∧ Gs B x v1 l (k + 1) b w0 w1 := by
  obtain ⟨v1, w1, hr1, ho1, e1, e2, e3, e4, e5⟩ := run_app1x w B (l.length + k) u _ b h.row (by omega) (Nat.le_trans hB h.size)
  refine ⟨v1, w1, hr1, ⟨?_, ?_, ?_, e1.trans h.os, e2.trans h.tape, e3.trans h.out, Nat.le_trans h.size e4, ?_⟩⟩
  · rw [List.replicate_succ', ← List.append_assoc]; exact ho1
  · intro j hj
    rcases e5 with ⟨h5, _⟩ | ⟨h5, _⟩
    · exact h.blk j (by rw [← h5]; exact hj)
    · exact .inr (Nat.le_trans h.size (h5 j hj))
  · rcases e5 with ⟨h5, h6⟩ | ⟨_, h6⟩
    · rcases HF with ⟨rfl, rfl⟩ | ⟨g, c, rfl, h2, h3⟩
      · exact .inl ⟨rfl, rfl⟩
      · by_cases hgg : u.ownBlock = some g
        · rw [hgg] at h5
          obtain ⟨hl1, ⟨hv1, _⟩ | ⟨g1, cap1, cur1, hv1, hb1, hg1, hn1, hc1, hs1, ht1⟩⟩ := ho1
          · rw [hv1] at h5; cases h5
          · rw [hv1] at h5
            have : g1 = g := Option.some.inj h5
            subst this
            refine .inr ⟨g1, 0, c, rfl, h2, h3, (Array.getElem?_eq_some_iff.1 hg1).1, fun j hj => ?_⟩
            have q1 : cur1.toList[j]? = (bs (l ++ List.replicate k b ++ [b])).toList[j]? := by rw [← ht1, List.getElem?_take, if_pos (by omega)]
            rw [Nat.zero_add, cell_of_row w1 _ _ _ _ _ hg1, ← Array.getElem?_toList, q1, Array.getElem?_toList, bs_get _ _ (by simp; omega)]
            have : (l ++ List.replicate k b ++ [b]).getD j 0 = l.getD j 0 := by
              rw [List.append_assoc, List.getD, List.getElem?_append_left hj]
              rfl
            rw [this]
        · refine byl_block h.byl e4 fun g' hg' => h6 g' (byl_lt h.byl g' hg') fun he => hgg ?_
          have : g = g' := Option.some.inj hg'
          rw [this]
          exact he.symm
    · exact byl_block h.byl e4 fun g hg => h6 g (byl_lt h.byl g hg)
  · intro j hj hn
    have hj' := Nat.lt_of_lt_of_le hj h.size
    refine Eq.trans ?_ (h.oth j hj hn)
    rcases e5 with ⟨_, h6⟩ | ⟨_, h6⟩
    · refine h6 j hj' fun he => ?_
      rcases h.blk j he.symm with h1 | h1
      · exact hn h1
      · omega
    · exact h6 j hj'
/-- The lists gone on with, i of them. -/
structure Ms (g : Nat) (vl vw : Value) (xs ws : List Value) (ls : List (List Nat)) (N i : Nat) (vm : Value) (ys : List Value) (w : World) : Prop where
  hd : Hd g vl vw xs ws w
  len : xs.length = ls.length
  byx : ∀ (j : Nat) x l, xs[j]? = some x → ls[j]? = some l → Byl x l w
  own : ∀ (j : Nat) x l, i ≤ j → xs[j]? = some x → ls[j]? = some l → w.ownsRow (g + 1) 5 1 x l.length (bs l).toList
  byy : ∀ (j : Nat) y l, ys[j]? = some y → ls[j]? = some l → Byl y (l ++ List.replicate 64 (101 + j)) w
  yb : ∀ (j : Nat) y k, ys[j]? = some y → y.ownBlock = some k → (∃ x, xs[j]? = some x ∧ x.ownBlock = some k) ∨ (N ≤ k ∧ ¬ vm.ownBlock = some k)
  m : w.ownsRow N 22 1 vm i ys
  size : N ≤ w.heap.size
  apl : ∀ (j : Nat) x k, xs[j]? = some x → x.ownBlock = some k → k < N ∧ g < k ∧ ¬ vl.ownBlock = some k ∧ ¬ vw.ownBlock = some k
  xx : ∀ (i j : Nat) x y k, xs[i]? = some x → xs[j]? = some y → x.ownBlock = some k → y.ownBlock = some k → i = j
  vlN : ∀ k, vl.ownBlock = some k → k < N
  vwN : ∀ k, vw.ownBlock = some k → k < N
  gN : g < N
theorem Kq.ms {g : Nat} {vl vw : Value} {xs ws : List Value} {ls : List (List Nat)} {w : World} (h : Kq g vl vw xs ws ls w) : Ms g vl vw xs ws ls w.heap.size 0 (.slice none 0 0) [] w := by
  refine ⟨h.hd, h.len, fun j x l hx hl => (byl_own (h.own j x l hx hl)).1, fun j x l _ hx hl => h.own j x l hx hl, fun j y l hy => by simp at hy, fun j y k hy => by simp at hy, World.ownsRow_nil _ _ _ _, Nat.le_refl _, fun j x k hx hk => ?_, h.xx, fun k hk => (h.hd.l.lt k hk).2, fun k hk => (h.hd.w.lt k hk).2, (Array.getElem?_eq_some_iff.1 h.hd.row).1⟩
  have h1 := h.apl j x k hx hk
  obtain ⟨l, hl⟩ : ∃ l, ls[j]? = some l := by
    have := (List.getElem?_eq_some_iff.1 hx).1
    rw [h.len] at this
    exact ⟨_, List.getElem?_eq_getElem this⟩
  have h2 := ((h.own j x l hx hl).lt k hk).1
  exact ⟨h1.1, by omega, h1.2.2⟩
theorem Ms.step {g : Nat} {vl vw : Value} {xs ws : List Value} {ls : List (List Nat)} {N i : Nat} {vm x u : Value} {ys : List Value} {l : List Nat} {w w1 : World} (h : Ms g vl vw xs ws ls N i vm ys w) (hx : xs[i]? = some x) (hl : ls[i]? = some l)
    (hg : Gs (g + 1) x u l 64 (101 + i) w w1) (hi : i + 1 ≤ 1048576) :
    ∃ v' w', (ap4 40 #[vm, .slice (some ⟨w1.heap.size, 0, none⟩) 1 1]).run Tryd.prog (w1.alloc (.cells #[u] 22)) = .ok v' w' ∧ Ms g vl vw xs ws ls N (i + 1) v' (ys ++ [u]) w' ∧ (Below g w w1 → Below g w w') := by
  have hzz := h.size
  have hz1 := hg.size
  have hgx := h.apl i x
  have m1 : w1.ownsRow N 22 1 vm i ys := own_keep h.m fun k hk => hg.oth k (h.m.lt k hk).2 (fun he => by have := (hgx k hx he).1; have := (h.m.lt k hk).1; omega)
  have ouc : u.oneCell' = true := by obtain ⟨o, c, rfl⟩ := own_slice hg.row; rfl
  obtain ⟨v', w', hr, ho, hgr, ha⟩ := run_ap4 w1 N i 40 vm u ys m1 ouc hi (by omega)
  have ltm := fun k hk => m1.lt k hk
  have b2 : ∀ k, k < w1.heap.size → ¬ vm.ownBlock = some k → w'.heap[k]? = w1.heap[k]? := fun k hk hn => by
    rw [hgr.block k (by simp; omega) (fun h => hn h.symm), heap_alloc_old _ _ (h := hk)]
  have s2 : w1.heap.size ≤ w'.heap.size := by have := hgr.size; simp at this; omega
  have b3 : ∀ k, k < N → ¬ x.ownBlock = some k → w'.heap[k]? = w.heap[k]? := fun k hk hn => (b2 k (by omega) (fun he => by have := (ltm k he).1; omega)).trans (hg.oth k (by omega) hn)
  have yslen : ys.length = i := by have := h.m.1; omega
  refine ⟨v', w', hr, ⟨?_, h.len, ?_, ?_, ?_, ?_, ho, by omega, h.apl, h.xx, h.vlN, h.vwN, h.gN⟩, ?_⟩
  · exact ⟨(b3 g h.gN (fun he => by have := (hgx g hx he).2.1; omega)).trans h.hd.row, own_keep h.hd.l fun k hk => b3 k (h.vlN k hk) (fun he => (hgx k hx he).2.2.1 hk), own_keep h.hd.w fun k hk => b3 k (h.vwN k hk) (fun he => (hgx k hx he).2.2.2 hk), h.hd.ne⟩
  · intro j y m hy hm
    by_cases hij : i = j
    · subst hij
      rw [hx] at hy; rw [hl] at hm
      cases hy; cases hm
      exact byl_block hg.byl s2 fun k hk => b2 k (byl_lt hg.byl k hk) (fun he => by have := (hgx k hx hk).1; have := (ltm k he).1; omega)
    · exact byl_block (h.byx j y m hy hm) (by omega) fun k hk => b3 k (h.apl j y k hy hk).1 (fun he => hij (h.xx i j x y k hx hy he hk))
  · intro j y m hj hy hm
    exact own_keep (h.own j y m (by omega) hy hm) fun k hk => b3 k (h.apl j y k hy hk).1 (fun he => by have := h.xx i j x y k hx hy he hk; omega)
  · intro j y m hy hm
    rcases snoc_get hy with ⟨hy, hj⟩ | ⟨rfl, rfl⟩
    · have hb := h.byy j y m hy hm
      refine byl_block hb (by omega) fun k hk => ?_
      rcases h.yb j y k hy hk with ⟨z, hz, hzk⟩ | ⟨h1, h2⟩
      · exact b3 k (h.apl j z k hz hzk).1 (fun he => by have := h.xx i j x z k hx hz he hzk; omega)
      · have hlt := byl_lt hb k hk
        exact (b2 k (by omega) h2).trans (hg.oth k hlt (fun he => by have := (hgx k hx he).1; omega))
    · rw [yslen, hl] at hm
      cases hm
      rw [yslen]
      have hb := (byl_own hg.row).1
      refine byl_block hb s2 fun k hk => b2 k (byl_lt hb k hk) (fun he => ?_)
      rcases hg.blk k hk with h1 | h1
      · have := (hgx k hx h1).1; have := (ltm k he).1; omega
      · have := (h.m.lt k he).2; omega
  · intro j y k hy hk
    rcases snoc_get hy with ⟨hy, hj⟩ | ⟨rfl, rfl⟩
    · rcases h.yb j y k hy hk with h1 | ⟨h1, h2⟩
      · exact .inl h1
      · refine .inr ⟨h1, fun he => ?_⟩
        rcases ha k he with h3 | h3
        · exact h2 h3
        · obtain ⟨m, hm⟩ : ∃ m, ls[j]? = some m := by
            have : i < ls.length := (List.getElem?_eq_some_iff.1 hl).1
            exact ⟨_, List.getElem?_eq_getElem (by omega : j < ls.length)⟩
          have := byl_lt (h.byy j y m hy hm) k hk
          omega
    · rcases hg.blk k hk with h1 | h1
      · exact .inl ⟨x, by rw [yslen]; exact hx, h1⟩
      · refine .inr ⟨by omega, fun he => ?_⟩
        rcases ha k he with h3 | h3
        · have := (h.m.lt k h3).2; omega
        · have := byl_lt (byl_own hg.row).1 k hk; omega
  · intro hb
    refine hb.trans ⟨hgr.os, hgr.tape, hgr.output, by omega, fun k hk => b2 k ?_ (fun he => by have := (ltm k he).1; have := h.gN; omega)⟩
    have := h.gN; omega
end Go.Proofs.YtkppejaigodgiabDoor
