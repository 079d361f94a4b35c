/- The law's helpers grown and filled: lists that are gone on with. -/
import Derived.Test.YtkppejaigodgiabDoorUnH
import Derived.Maps.AppendAt
import Derived.Deep.DeepAppendRoom
import Derived.Deep.AppendLies
namespace Go.Proofs.YtkppejaigodgiabDoor
open Go.RowKit
/-- Nothing but blocks of a window is touched. -/
structure Tch (lo hi : Nat) (w w' : World) : Prop where
  os : w'.os = w.os
  tape : w'.tape = w.tape
  output : w'.output = w.output
  size : w.heap.size ≤ w'.heap.size
  block : ∀ j, j < w.heap.size → ¬ (lo ≤ j ∧ j < hi) → w'.heap[j]? = w.heap[j]?
theorem Tch.refl (lo hi : Nat) (w : World) : Tch lo hi w w := ⟨rfl, rfl, rfl, Nat.le_refl _, fun _ _ _ => rfl⟩
theorem Tch.trans {lo hi : Nat} {a b c : World} (h : Tch lo hi a b) (k : Tch lo hi b c) : Tch lo hi a c :=
  ⟨k.os.trans h.os, k.tape.trans h.tape, k.output.trans h.output, Nat.le_trans h.size k.size, fun j hj hn => (k.block j (Nat.lt_of_lt_of_le hj h.size) hn).trans (h.block j hj hn)⟩
theorem Tch.below {lo hi B : Nat} {a b : World} (h : Tch lo hi a b) (hB : B ≤ lo) (hs : B ≤ a.heap.size) : Below B a b :=
  ⟨h.os, h.tape, h.output, h.size, fun j hj => h.block j (by omega) (by omega)⟩
theorem Tch.drew {lo hi : Nat} {a b : World} (h : Tch lo hi a b) : Tch lo hi a b.drew := ⟨h.os, h.tape, h.output, h.size, h.block⟩
theorem Tch.wide {lo hi lo' hi' : Nat} {a b : World} (h : Tch lo hi a b) (h1 : lo' ≤ lo) (h2 : hi ≤ hi') : Tch lo' hi' a b := ⟨h.os, h.tape, h.output, h.size, fun j hj hn => h.block j hj (by omega)⟩
theorem Tch.of_below {lo hi : Nat} {a b : World} (h : Below a.heap.size a b) : Tch lo hi a b := ⟨h.os, h.tape, h.output, h.size, fun j hj _ => h.block j hj⟩
theorem byl_block {v : Value} {l : List Nat} {w w' : World} (h : Byl v l w) (hs : w.heap.size ≤ w'.heap.size) (hb : ∀ g, v.ownBlock = some g → w'.heap[g]? = w.heap[g]?) : Byl v l w' := by
  rcases h with h | ⟨b, off, cap, rfl, h2, h3, h5, h6⟩
  · exact .inl h
  · exact .inr ⟨b, off, cap, rfl, h2, h3, by omega, fun j hj => (World.cell?_of_block (w := w) (hb b rfl)).trans (h6 j hj)⟩
theorem byl_tch {v : Value} {l : List Nat} {lo hi : Nat} {w w' : World} (h : Byl v l w) (ht : Tch lo hi w w') (hb : ∀ g, v.ownBlock = some g → ¬ (lo ≤ g ∧ g < hi)) : Byl v l w' := by
  rcases h with h | ⟨b, off, cap, rfl, h2, h3, h5, h6⟩
  · exact .inl h
  · exact .inr ⟨b, off, cap, rfl, h2, h3, Nat.lt_of_lt_of_le h5 ht.size, fun j hj => (World.cell?_of_block (w := w) (ht.block b h5 (hb b rfl))).trans (h6 j hj)⟩
theorem byl_lt {v : Value} {l : List Nat} {w : World} (h : Byl v l w) (g : Nat) (hg : v.ownBlock = some g) : g < w.heap.size := by
  rcases h with ⟨rfl, _⟩ | ⟨b, off, cap, rfl, h2, h3, h5, h6⟩
  · cases hg
  · have : b = g := Option.some.inj hg
    omega
/-- One byte appended: in its place, or into a new block and nothing else is touched. -/
theorem run_app1x (w : World) (base n : Nat) (v : Value) (l : List Nat) (x : Nat) (hown : w.ownsRow base 5 1 v n (bs l).toList) (hb : n + 1 ≤ 140737488355328) (hbase : base ≤ w.heap.size) :
    ∃ v' w', (appR 22 #[v, .slice (some ⟨w.heap.size, 0, none⟩) 1 1]).run Tryd.prog (w.alloc (.cells #[.int .u8 (x : Int)] 5)) = .ok v' w' ∧ w'.ownsRow base 5 1 v' (n + 1) (bs (l ++ [x])).toList ∧ w'.os = w.os ∧ w'.tape = w.tape ∧ w'.output = w.output ∧ w.heap.size ≤ w'.heap.size ∧
      ((v'.ownBlock = v.ownBlock ∧ ∀ j, j < w.heap.size → some j ≠ v.ownBlock → w'.heap[j]? = w.heap[j]?) ∨ ((∀ g, v'.ownBlock = some g → w.heap.size ≤ g) ∧ ∀ j, j < w.heap.size → w'.heap[j]? = w.heap[j]?)) := by
  obtain ⟨i0, hi0, hz0, hz1, hz2⟩ := info_parts info5
  obtain ⟨wa, hwa⟩ : ∃ wa, wa = w.alloc (.cells #[.int .u8 (x : Int)] 5) := ⟨_, rfl⟩
  have hwas : wa.heap.size = w.heap.size + 1 := by rw [hwa]; simp
  have hold : ∀ j, j < w.heap.size → wa.heap[j]? = w.heap[j]? := fun j hj => by rw [hwa]; exact heap_alloc_old _ _ (h := hj)
  have hnews : ∀ j u, [Value.int .u8 (x : Int)][j]? = some u → wa.cell? ((⟨w.heap.size, 0, none⟩ : Addr).add j) = some u := by
    rw [hwa]; exact World.news_of_block (cs := #[.int .u8 (x : Int)]) (t := 5) (fr := (0, 0)) (heap_alloc_new w _)
  have h1 : ∀ u ∈ [Value.int .u8 (x : Int)], u.oneCell' = true := by intro u hu; rw [List.mem_singleton] at hu; subst hu; rfl
  have hown' : wa.ownsRow base 5 1 v n (bs l).toList := by rw [hwa]; exact hown.alloc _
  obtain ⟨v', w', hr, ho, hg, hnil, hat⟩ := run_append_own_at (P := Tryd.prog) wa base 22 22 5 i0 _ 1 1 Tryd.underlying22 hi0 hz0 hz1 hz2 rfl (by omega) v n _ hown' ⟨w.heap.size, 0, none⟩ 1 1 [.int .u8 (x : Int)] rfl hnews h1 (by unfold maxLen; omega) (by omega) (by omega)
  have ho' : w'.ownsRow base 5 1 v' (n + 1) (bs (l ++ [x])).toList := by
    rw [bs_app]; exact ho
  have hos : w'.os = w.os ∧ w'.tape = w.tape ∧ w'.output = w.output := by
    have a1 := hg.os
    have a2 := hg.tape
    have a3 := hg.output
    rw [hwa] at a1 a2 a3
    exact ⟨a1, a2, a3⟩
  have hsz : w.heap.size ≤ w'.heap.size := by have := hg.size; omega
  rw [← hwa]
  refine ⟨v', w', hr, ho', hos.1, hos.2.1, hos.2.2, hsz, ?_⟩
  rcases hat with hat | hat
  · left
    exact ⟨hat, fun j hj hne => (hg.block j (by omega) hne).trans (hold j hj)⟩
  · right
    refine ⟨fun g hg' => ?_, fun j hj => ?_⟩
    · rw [hat] at hg'
      have := Option.some.inj hg'
      omega
    · rcases hown'.2 with ⟨rfl, rfl⟩ | ⟨g, cap, cur, rfl, hbg, hgr, hnc, hcm, hcs, htake⟩
      · refine (hg.block j (by omega) ?_).trans (hold j hj)
        intro h; cases h
      · by_cases hroom : n + 1 ≤ cap
        · exfalso
          obtain ⟨w2, hr2, _⟩ := run_append_own_spare (P := Tryd.prog) wa base 22 22 5 i0 1 Tryd.underlying22 hi0 hz1 g n cap _ hown' ⟨w.heap.size, 0, none⟩ 1 1 [.int .u8 (x : Int)] rfl hnews h1 hroom
          rw [hr2] at hr
          injection hr with e1 e2
          rw [← e1] at hat
          have h2 : g = wa.heap.size := Option.some.inj hat
          have := (Array.getElem?_eq_some_iff.1 hgr).1
          omega
        · have holds : ∀ j u, (bs l).toList[j]? = some u → wa.cell? ((⟨g, 0, none⟩ : Addr).add j) = some u := hown'.cells (g := g) rfl
          have hr2 := run_append_grow (P := Tryd.prog) wa 22 22 5 i0 _ Tryd.underlying22 hi0 hz0 ⟨g, 0, none⟩ n cap (bs l).toList (by rw [hz1]; exact hown'.1) holds ⟨w.heap.size, 0, none⟩ 1 1 [.int .u8 (x : Int)] (by rw [hz1]; rfl) hnews (by omega) (by omega) (growslice_fits (by omega) (by rw [hz2]; omega))
          rw [hr2] at hr
          injection hr with e1 e2
          rw [← e2]
          exact (heap_alloc_old wa.drew _ (h := by show j < wa.heap.size; omega)).trans (hold j hj)
/-- A list that a call owns, in a window of blocks. -/
structure Own (lo hi : Nat) (v : Value) (l : List Nat) (w : World) : Prop where
  row : w.ownsRow lo 5 1 v l.length (bs l).toList
  lt : ∀ g, v.ownBlock = some g → g < hi
theorem Own.byl {lo hi : Nat} {v : Value} {l : List Nat} {w : World} (h : Own lo hi v l w) : Byl v l w := (byl_own h.row).1
theorem Own.keep {lo hi : Nat} {v : Value} {l : List Nat} {w w' : World} (h : Own lo hi v l w) (hb : ∀ g, v.ownBlock = some g → w'.heap[g]? = w.heap[g]?) : Own lo hi v l w' := by
  refine ⟨?_, h.lt⟩
  obtain ⟨h1, h2 | ⟨g, cap, cur, rfl, h3, h4, h5⟩⟩ := h.row
  · exact ⟨h1, .inl h2⟩
  · exact ⟨h1, .inr ⟨g, cap, cur, rfl, h3, (hb g rfl).trans h4, h5⟩⟩
theorem Own.tch {lo hi a b : Nat} {v : Value} {l : List Nat} {w w' : World} (h : Own lo hi v l w) (ht : Tch a b w w') (hd : hi ≤ a ∨ b ≤ lo) : Own lo hi v l w' := by
  refine h.keep fun g hg => ht.block g (byl_lt h.byl g hg) ?_
  have h1 := h.lt g hg
  have h2 := (h.row.lt g hg).1
  omega
attribute [local go_sem ↓] toApp
set_option maxRecDepth 100000 in
set_option maxHeartbeats 1600000 in
theorem grown_any (lo hi : Nat) (l : List Nat) (hl : l.length + 100 ≤ 140737488355328) (v : Value) (b : Nat) (w : World) (hlo : lo ≤ w.heap.size) (ho : Own lo hi v l w) :
    Calls Tryd.prog 42 #[v, .int .u8 (b : Int)] w fun e w' => ∃ u, e = .returned u ∧ Byl u (l ++ List.replicate 100 b) w' ∧ (∀ g, u.ownBlock = some g → (lo ≤ g ∧ g < hi) ∨ w.heap.size ≤ g) ∧ Byl v l w' ∧ Tch lo hi w w' := by
  have HV : Hid (Byl v l w) := ho.byl
  have HW : Hid (∀ g, v.ownBlock = some g → (lo ≤ g ∧ g < hi)) := fun g hg => ⟨(ho.row.lt g hg).1, ho.lt g hg⟩
  have HR : Hid (w.ownsRow lo 5 1 v (l.length + 0) (bs (l ++ List.replicate 0 b)).toList) := by rw [List.replicate_zero, List.append_nil, Nat.add_zero]; exact ho.row
  have HF : Hid ((v = .slice none 0 0 ∧ l = []) ∨ ∃ g c, v = .slice (some ⟨g, 0, none⟩) l.length c ∧ l.length ≤ c ∧ c ≤ maxLen) := by
    obtain ⟨h1, ⟨h2, h3⟩ | ⟨g, cap, cur, h2, _, _, h3, h4, _⟩⟩ := ho.row
    · exact .inl ⟨h2, List.length_eq_zero_iff.1 h3⟩
    · exact .inr ⟨g, cap, h2, h3, h4⟩
  clear ho
  go_enter Tryd.func42, Tryd.ntmps42
  go_wp2_with fail
  go_loopw [5, 6] (fun ov i wr => ∃ k : Nat, i = .int .i64 (k : Int) ∧ k ≤ 100 ∧ Hid (wr.ownsRow lo 5 1 ov (l.length + k) (bs (l ++ List.replicate k b)).toList) ∧ Hid (∀ g, ov.ownBlock = some g → (lo ≤ g ∧ g < hi) ∨ w.heap.size ≤ g) ∧ Hid (Byl v l wr) ∧ Hid (Tch lo hi w wr)) (fun _ i _ => 100 - (intOf i).toNat)
  case atStart => exact ⟨0, rfl, by omega, HR, fun g hg => .inl (HW.out g hg), HV, Tch.refl _ _ w⟩
  case round =>
    obtain ⟨k, rfl, hk, HO, HG, HB, HT⟩ := hrel
    by_cases hlt : k < 100
    · have hk1 : (k : Int) < 100 := by omega
      obtain ⟨v1, w1, hr1, ho1, e1, e2, e3, e4, e5⟩ := run_app1x wr lo (l.length + k) u5 _ b HO.out (by omega) (Nat.le_trans hlo HT.out.size)
      have HO1 : Hid (w1.ownsRow lo 5 1 v1 (l.length + (k + 1)) (bs (l ++ List.replicate (k + 1) b)).toList) := by
        show World.ownsRow _ _ _ _ _ _ _
        rw [List.replicate_succ', ← List.append_assoc]
        exact ho1
      have HG1 : Hid (∀ g, v1.ownBlock = some g → (lo ≤ g ∧ g < hi) ∨ w.heap.size ≤ g) := by
        intro g hg
        rcases e5 with ⟨h, _⟩ | ⟨h, _⟩
        · exact HG.out g (by rw [← h]; exact hg)
        · exact .inr (Nat.le_trans HT.out.size (h g hg))
      have HT1 : Hid (Tch lo hi w w1) := by
        refine ⟨e1.trans HT.out.os, e2.trans HT.out.tape, e3.trans HT.out.output, Nat.le_trans HT.out.size e4, fun j hj hn => ?_⟩
        have hj' := Nat.lt_of_lt_of_le hj HT.out.size
        refine Eq.trans ?_ (HT.out.block j hj hn)
        rcases e5 with ⟨_, h⟩ | ⟨_, h⟩
        · refine h j hj' fun he => ?_
          rcases HG.out j he.symm with h1 | h1
          · exact hn h1
          · omega
        · exact h j hj'
      have HB1 : Hid (Byl v l w1) := by
        rcases e5 with ⟨h5, h⟩ | ⟨_, h⟩
        · rcases HF.out with ⟨rfl, rfl⟩ | ⟨g, c, rfl, h2, h3⟩
          · exact .inl ⟨rfl, rfl⟩
          · by_cases hgg : u5.ownBlock = some g
            · rw [hgg] at h5
              obtain ⟨hl1, ⟨hv1, _⟩ | ⟨g1, cap1, cur1, hv1, hb1, hg1, hn1, hc1, hs1, ht1⟩⟩ := ho1
              · rw [hv1] at h5; cases h5
              · rw [hv1] at h5
                have : g1 = g := Option.some.inj h5
                subst this
                refine .inr ⟨g1, 0, c, rfl, h2, h3, (Array.getElem?_eq_some_iff.1 hg1).1, fun j hj => ?_⟩
                have q1 : cur1.toList[j]? = (bs (l ++ List.replicate k b ++ [b])).toList[j]? := by rw [← ht1, List.getElem?_take, if_pos (by omega)]
                rw [Nat.zero_add, cell_of_row w1 _ _ _ _ _ hg1, ← Array.getElem?_toList, q1, Array.getElem?_toList, bs_get _ _ (by simp; omega)]
                have : (l ++ List.replicate k b ++ [b]).getD j 0 = l.getD j 0 := by
                  rw [List.append_assoc, List.getD, List.getElem?_append_left hj]
                  rfl
                rw [this]
            · refine byl_block HB.out e4 fun g' hg' => h g' (byl_lt HB.out g' hg') fun he => hgg ?_
              have : g = g' := Option.some.inj hg'
              rw [this]
              exact he.symm
        · exact byl_block HB.out e4 fun g hg => h g (byl_lt HB.out g hg)
      clear ho1 e1 e2 e3 e4 e5 HO HG HB HT
      go_wp2
      exact ⟨⟨k + 1, by rfl, by omega, HO1, HG1, HB1, HT1⟩, by simp only [intOf]; omega⟩
    · have hk1 : ¬ ((k : Int) < 100) := by omega
      have hke : k = 100 := by omega
      subst hke
      go_wp2
      go_ret
      exact ⟨_, rfl, (byl_own HO.out).1, HG.out, HB.out, HT.out⟩
set_option maxRecDepth 100000 in
set_option maxHeartbeats 1600000 in
theorem filled_any (n b : Nat) (hn : n ≤ 281474976710656) (v : Value) (w : World) (hv : Byl v (List.replicate n b) w) :
    Calls Tryd.prog 43 #[v, .int .u8 (b : Int)] w fun e w' => e = .returned (.bool true) ∧ w' = w := by
  obtain ⟨o, c, rfl, _, _, ho⟩ := hv.form
  rw [List.length_replicate] at ho ⊢
  clear hv
  go_enter Tryd.func43, Tryd.ntmps43
  go_wp2_with fail
  go_loopw [5] (fun i wr => ∃ k : Nat, i = .int .i64 (k : Int) ∧ k ≤ n ∧ wr = w) (fun i _ => n - (intOf i).toNat)
  case atStart => exact ⟨0, rfl, by omega, rfl⟩
  case round =>
    obtain ⟨k, rfl, hk, hwr⟩ := hrel
    subst hwr
    by_cases hlt : k < n
    · obtain ⟨b1, o1, rfl, hb1, hc1⟩ := ho (by omega)
      have hk0 : (0 : Int) ≤ (k : Int) := by omega
      have hk1 : (k : Int) < (n : Int) := by omega
      have cx : wr.cell? ⟨b1, o1 + k, none⟩ = some (.int .u8 (b : Int)) := by
        rw [hc1 k hlt]
        simp [List.getD, hlt]
      go_wp2
      exact ⟨⟨k + 1, by rfl, by omega, trivial⟩, by simp only [intOf]; omega⟩
    · have hk1 : ¬ ((k : Int) < (n : Int)) := by omega
      go_wp2
      go_ret
      exact ⟨rfl, rfl⟩
end Go.Proofs.YtkppejaigodgiabDoor
