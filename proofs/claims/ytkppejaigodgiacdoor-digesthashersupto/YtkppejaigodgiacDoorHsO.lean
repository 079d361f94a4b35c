/- DigestHashers: the calls on hashers, the code's and the document's. -/
import Derived.Test.YtkppejaigodgiacDoorShTb
import Derived.Test.YtkppejaigodgiacDoorBig
import Derived.Maps.AppendAt
namespace Go.Proofs.YtkppejaigodgiacDoor.Sha
open Go.RowKit
attribute [local go_sem] zero43
theorem len_any (g : Nat) (st rest : List Nat) (n : Nat) (hst : st.length = 8) (hrs : rest.length = 64) (w : World) (hh : Hid (w.heap[g]? = some (.cells (hs st rest n) 49 (0, 0)))) :
    Calls Tryd.prog 16 #[.pointer (some ⟨g, 0, none⟩)] w fun e w' => e = .returned (.int .i64 (n : Int)) ∧ w' = w := by
  have cn : w.cell? ⟨g, 72, none⟩ = some (.int .i64 (n : Int)) := by rw [cell_of_row w _ _ _ _ _ hh.out, hs_len _ _ _ hst hrs]
  go_enter Tryd.func16, Tryd.ntmps16
  go_wp2
  go_ret
  exact ⟨rfl, rfl⟩
set_option maxHeartbeats 400000 in
theorem clone_any (g : Nat) (st rest : List Nat) (n : Nat) (hst : st.length = 8) (hrs : rest.length = 64) (w : World) (hh : Hid (w.heap[g]? = some (.cells (hs st rest n) 49 (0, 0)))) :
    Calls Tryd.prog 18 #[.pointer (some ⟨g, 0, none⟩)] w fun e w' => e = .returned (.pointer (some ⟨w.heap.size, 0, none⟩)) ∧ w'.heap[w.heap.size]? = some (.cells (hs st rest n) 49 (0, 0)) ∧ Below w.heap.size w w' := by
  have hz' : (hs st rest n).size = 73 := hs_size _ _ _ hst hrs
  go_enter Tryd.func18, Tryd.ntmps18
  go_wp2_with (first
    | refine wpList_load_row rfl 49 _ rfl _ rfl 49 _ (0, 0) _ (by exact hh.out) Tryd.underlying49 rfl (by rw [size43, hz']) ?_
    | refine wpList_store_row rfl 49 _ _ rfl _ _ rfl rfl 49 _ (by exact heap_alloc_new _ _) (by rw [size43, hz']) (by rw [hz']; rfl) (hs_one _ _ _) ?_)
  go_ret
  refine ⟨rfl, setRow_heap _ _ _ _ _ _ (heap_alloc_new _ _), ?_⟩
  exact below_setRow ((Below.refl _ _).alloc (Nat.le_refl _) _) (Nat.le_refl _) _
set_option maxHeartbeats 400000 in
theorem reset_any (g : Nat) (st rest : List Nat) (n : Nat) (hst : st.length = 8) (hrs : rest.length = 64) (w : World) (hh : Hid (w.heap[g]? = some (.cells (hs st rest n) 49 (0, 0)))) :
    Calls Tryd.prog 20 #[.pointer (some ⟨g, 0, none⟩)] w fun e w' => e = .returned (.tuple #[]) ∧ w'.heap[g]? = some (.cells hz 49 (0, 0)) ∧ Touch g w w' := by
  have hz' : (hs st rest n).size = 73 := hs_size _ _ _ hst hrs
  go_enter Tryd.func20, Tryd.ntmps20
  go_wp2_with (refine wpList_store_row rfl 49 _ _ rfl _ hz rfl rfl 49 _ (by exact hh.out) (by rw [size43]; rfl) (by rw [hz']; rfl) (hs_one _ _ _) ?_)
  go_end0
  exact ⟨rfl, setRow_heap _ _ _ _ _ _ hh.out, (Touch.refl _ _).setRow _⟩
abbrev Tk (m : List Nat) (g : Nat) (w : World) : Prop := Took roundN startN m g w
theorem clone_tb (g : Nat) (m : List Nat) (w : World) (hT : Tk m g w) : Calls Tryd.prog 18 #[.pointer (some ⟨g, 0, none⟩)] w fun e w' => e = .returned (.pointer (some ⟨w.heap.size, 0, none⟩)) ∧ Tk m w.heap.size w' ∧ Below w.heap.size w w' := by
  obtain ⟨st, rest, hst, hrs, hsw, hrb, hh, hrest⟩ := hT
  refine (clone_any g st rest m.length hst hrs w hh).mono fun e w' ⟨he, hn, hb⟩ => ⟨he, ?_, hb⟩
  exact ⟨st, rest, hst, hrs, hsw, hrb, hn, hrest⟩
theorem reset_tb (g : Nat) (m : List Nat) (w : World) (hT : Tk m g w) : Calls Tryd.prog 20 #[.pointer (some ⟨g, 0, none⟩)] w fun e w' => e = .returned (.tuple #[]) ∧ Tk [] g w' ∧ Touch g w w' := by
  obtain ⟨st, rest, hst, hrs, hsw, hrb, hh, hrest⟩ := hT
  exact (reset_any g st rest m.length hst hrs w hh).mono fun e w' ⟨he, hn, ht⟩ => ⟨he, took_zero _ _ g w' hn, ht⟩
theorem len_tb (g : Nat) (m : List Nat) (w : World) (hT : Tk m g w) : Calls Tryd.prog 16 #[.pointer (some ⟨g, 0, none⟩)] w fun e w' => e = .returned (.int .i64 (m.length : Int)) ∧ w' = w := by
  obtain ⟨st, rest, hst, hrs, hsw, hrb, hh, hrest⟩ := hT
  exact len_any g st rest m.length hst hrs w hh
theorem write_tb (g : Nat) (m d : List Nat) (hdb : Byt d) (hn : m.length + d.length ≤ 1152921504606846976) (v : Value) (w : World) (hv : Bts g v d w) (hg : g ≠ 3) (ht : Tb w) (hT : Tk m g w) :
    Calls Tryd.prog 12 #[.pointer (some ⟨g, 0, none⟩), v] w fun e w' => e = .returned (.int .i64 0) ∧ Tk (m ++ d) g w' ∧ Touch g w w' :=
  write_took roundN startN mixOK rfl startN_wrd g m d hdb hn v w hv hg ht.sz ht.s ht.k hT
theorem sum_tb (g : Nat) (m : List Nat) (hn : m.length ≤ 1152921504606846976) (w : World) (ht : Tb w) (hT : Tk m g w) :
    Calls Tryd.prog 14 #[.pointer (some ⟨g, 0, none⟩)] w fun e w' => e = .returned (.agg (bs (sha m))) ∧ Below w.heap.size w w' :=
  sum_took roundN startN mixOK rfl startN_wrd g m hn w ht.sz ht.s ht.k hT
/-- The document's hasher: a row of one list. -/
def Rk (B : Nat) (m : List Nat) (h : Nat) (d : Value) (w : World) : Prop := w.heap[h]? = some (.cells #[d] 51 (0, 0)) ∧ w.ownsRow B 5 1 d m.length (bs m).toList
theorem newR (w : World) : Calls Tryd.prog 11 #[] w fun e w' => e = .returned (.pointer (some ⟨w.heap.size, 0, none⟩)) ∧ w' = w.alloc (.cells #[.slice none 0 0] 51) := by
  go_enter Tryd.func11, Tryd.ntmps11
  go_wp2
  go_ret
  exact ⟨rfl, rfl⟩
theorem lenR (B : Nat) (m : List Nat) (h : Nat) (d : Value) (w : World) (hR : Rk B m h d w) : Calls Tryd.prog 17 #[.pointer (some ⟨h, 0, none⟩)] w fun e w' => e = .returned (.int .i64 (m.length : Int)) ∧ w' = w := by
  obtain ⟨o, c, rfl, _⟩ := (YtkppejaigodgiacDoor.byl_own hR.2).1.form
  have c0 : w.cell? ⟨h, 0, none⟩ = some (.slice o m.length c) := (cell_of_row w h 0 _ _ _ hR.1).trans rfl
  clear hR
  go_enter Tryd.func17, Tryd.ntmps17
  go_wp2
  go_ret
  exact ⟨rfl, rfl⟩
theorem resetR (B : Nat) (m : List Nat) (h : Nat) (d : Value) (w : World) (hR : Rk B m h d w) : Calls Tryd.prog 21 #[.pointer (some ⟨h, 0, none⟩)] w fun e w' => e = .returned (.tuple #[]) ∧ Rk B [] h (.slice none 0 0) w' ∧ Touch h w w' := by
  have c0 : w.cell? ⟨h, 0, none⟩ = some d := (cell_of_row w h 0 _ _ _ hR.1).trans rfl
  have f0 : w.frozen? ⟨h, 0, none⟩ = false := frozen_of_row w _ _ _ _ hR.1
  have HR : Hid (w.heap[h]? = some (.cells #[d] 51 (0, 0))) := hR.1
  clear hR
  go_enter Tryd.func21, Tryd.ntmps21
  go_wp2
  go_end0
  exact ⟨rfl, ⟨(heap_setCell_same _ _ _ _ _ _ HR.out).trans rfl, World.ownsRow_nil _ _ _ _⟩, ⟨rfl, rfl, rfl, by simp [World.setCell], fun j _ hj => heap_setCell_other _ _ _ _ hj⟩⟩
/-- A slice of bytes, or one of no capacity, whatever its address. -/
def Byz (v : Value) (d : List Nat) (w : World) : Prop := YtkppejaigodgiacDoor.Byl v d w ∨ ∃ p, v = .slice p 0 0 ∧ d = []
theorem Byz.below {v : Value} {d : List Nat} {w w' : World} (h : Byz v d w) (hb : Below w.heap.size w w') : Byz v d w' := by
  rcases h with h | h
  · exact .inl (YtkppejaigodgiacDoor.Byl.below h hb)
  · exact .inr h
theorem Byz.form {v : Value} {d : List Nat} {w : World} (h : Byz v d w) : ∃ o c, v = .slice o d.length c := by
  rcases h with h | ⟨p, rfl, rfl⟩
  · obtain ⟨o, c, h1, _⟩ := YtkppejaigodgiacDoor.Byl.form h
    exact ⟨o, c, h1⟩
  · exact ⟨p, 0, rfl⟩
/-- A list appended: where it lies then. -/
theorem run_append_at (w : World) (base n ty : Nat) (v sv : Value) (l e : List Nat) (hown : w.ownsRow base 5 1 v n (bs l).toList) (hs0 : Byz sv e w) (hb : n + e.length ≤ 140737488355328) (hbase : base ≤ w.heap.size) :
    ∃ v' w', (appR ty #[v, sv]).run Tryd.prog w = .ok v' w' ∧ w'.ownsRow base 5 1 v' (n + e.length) (bs (l ++ e)).toList ∧ w.grownBy w' v.ownBlock ∧ (v'.ownBlock = v.ownBlock ∨ v'.ownBlock = some w.heap.size) := by
  obtain ⟨i0, hi0, hz0, hz1, hz2⟩ := info_parts info5
  rcases hs0 with (⟨rfl, rfl⟩ | ⟨b, off, cap, rfl, h1, h2, h3, h4⟩) | ⟨a, rfl, rfl⟩
  · refine ⟨v, w, run_append_owned_none (P := Tryd.prog) (w := w) base 22 ty 5 i0 1 Tryd.underlying22 hi0 v n _ hown, ?_, grownBy_refl _ _, .inl rfl⟩
    rw [List.append_nil]; exact hown
  · obtain ⟨v', w', hr, ho, hg, _, hat⟩ := run_append_own_at (P := Tryd.prog) w base 22 ty 5 i0 _ 1 1 Tryd.underlying22 hi0 hz0 hz1 hz2 rfl (by omega) v n _ hown ⟨b, off, none⟩ e.length cap (bs e).toList (by simp [bs]) (fun j u hu => by
        have hj : j < e.length := by have := (List.getElem?_eq_some_iff.1 hu).1; simpa [bs] using this
        rw [Array.getElem?_toList, bs_get _ _ hj] at hu
        rw [← hu, Addr.add_mid]
        exact h4 j hj) (fun u hu => by
          have := bs_one e
          rw [Array.all_eq_true_iff_forall_mem] at this
          exact this u (by simpa using hu)) (by unfold maxLen; omega) (by omega) hbase
    refine ⟨v', w', hr, ?_, hg, hat⟩
    rw [bs_app]; exact ho
  · cases a with
    | none =>
      refine ⟨v, w, run_append_owned_none (P := Tryd.prog) (w := w) base 22 ty 5 i0 1 Tryd.underlying22 hi0 v n _ hown, ?_, grownBy_refl _ _, .inl rfl⟩
      rw [List.append_nil]; exact hown
    | some a =>
      obtain ⟨v', w', hr, ho, hg, _, hat⟩ := run_append_own_at (P := Tryd.prog) w base 22 ty 5 i0 _ 1 1 Tryd.underlying22 hi0 hz0 hz1 hz2 rfl (by omega) v n _ hown a 0 0 [] rfl (fun j u hu => by simp at hu) (fun u hu => by cases hu) (by unfold maxLen; simp at hb; omega) (by simp at hb; omega) hbase
      refine ⟨v', w', hr, ?_, hg, hat⟩
      rw [List.append_nil]; rw [List.append_nil] at ho; exact ho
attribute [local go_sem ↓] toApp
set_option maxHeartbeats 800000 in
theorem writeR (B : Nat) (m p : List Nat) (h : Nat) (d v : Value) (w : World) (hR : Rk B m h d w) (hv : Byz v p w) (hn : m.length + p.length ≤ 1099511627776) (hB : B ≤ w.heap.size) (hne : ¬ d.ownBlock = some h) :
    Calls Tryd.prog 13 #[.pointer (some ⟨h, 0, none⟩), v] w fun e w' => e = .returned (.int .i64 0) ∧ ∃ d', Rk B (m ++ p) h d' w' ∧ (∀ k, d'.ownBlock = some k → d.ownBlock = some k ∨ k = w.heap.size) ∧
      w'.os = w.os ∧ w'.tape = w.tape ∧ w'.output = w.output ∧ w.heap.size ≤ w'.heap.size ∧ ∀ k, k < w.heap.size → k ≠ h → ¬ d.ownBlock = some k → w'.heap[k]? = w.heap[k]? := by
  obtain ⟨d', w1, r1, o1, g1, a1⟩ := run_append_at w B m.length 22 d v m p hR.2 hv (by omega) hB
  obtain ⟨o, c, rfl, _⟩ := (YtkppejaigodgiacDoor.byl_own hR.2).1.form
  obtain ⟨o2, c2, rfl⟩ := hv.form
  obtain ⟨o3, c3, hd', _⟩ := (YtkppejaigodgiacDoor.byl_own o1).1.form
  have hl3 : (m ++ p).length = m.length + p.length := by simp
  rw [hl3] at hd'
  subst hd'
  have hz : h < w.heap.size := (Array.getElem?_eq_some_iff.1 hR.1).1
  have c0 : w.cell? ⟨h, 0, none⟩ = some (.slice o m.length c) := (cell_of_row w h 0 _ _ _ hR.1).trans rfl
  have hr1 : w1.heap[h]? = some (.cells #[.slice o m.length c] 51 (0, 0)) := (g1.block h hz (fun e => hne e.symm)).trans hR.1
  have c1 : w1.cell? ⟨h, 0, none⟩ = some (.slice o m.length c) := (cell_of_row w1 h 0 _ _ _ hr1).trans rfl
  have f1 : w1.frozen? ⟨h, 0, none⟩ = false := frozen_of_row w1 _ _ _ _ hr1
  have hlen : (p.length : Int) ≤ 1152921504606846976 - (m.length : Int) := by omega
  have hm1 : (m.length : Int) ≤ 1152921504606846976 := by omega
  have POST : Hid (∃ d', Rk B (m ++ p) h d' (w1.setCell ⟨h, 0, none⟩ (.slice o3 (m.length + p.length) c3)) ∧ (∀ k, d'.ownBlock = some k → (Value.slice o m.length c).ownBlock = some k ∨ k = w.heap.size) ∧
      (w1.setCell ⟨h, 0, none⟩ (.slice o3 (m.length + p.length) c3)).os = w.os ∧ (w1.setCell ⟨h, 0, none⟩ (.slice o3 (m.length + p.length) c3)).tape = w.tape ∧ (w1.setCell ⟨h, 0, none⟩ (.slice o3 (m.length + p.length) c3)).output = w.output ∧ w.heap.size ≤ (w1.setCell ⟨h, 0, none⟩ (.slice o3 (m.length + p.length) c3)).heap.size ∧ ∀ k, k < w.heap.size → k ≠ h → ¬ (Value.slice o m.length c).ownBlock = some k → (w1.setCell ⟨h, 0, none⟩ (.slice o3 (m.length + p.length) c3)).heap[k]? = w.heap[k]?) := by
    refine ⟨.slice o3 (m.length + p.length) c3, ⟨(heap_setCell_same _ _ _ _ _ _ hr1).trans rfl, ?_⟩, fun k hk => ?_, g1.os, g1.tape, g1.output, by have := g1.size; simpa [World.setCell] using this, fun k hk h1 h2 => (heap_setCell_other _ _ _ _ h1).trans (g1.block k hk (fun e => h2 e.symm))⟩
    · rw [hl3]
      obtain ⟨q0, q1 | ⟨g, cap, cur, q2, q3, q4, q5⟩⟩ := o1
      · exact ⟨q0, .inl q1⟩
      · refine ⟨q0, .inr ⟨g, cap, cur, q2, q3, (heap_setCell_other _ _ _ _ ?_).trans q4, q5⟩⟩
        show g ≠ h
        intro e
        subst e
        have hgo : (Value.slice o3 (m.length + p.length) c3).ownBlock = some g := by rw [q2]; rfl
        rcases a1 with a1 | a1
        · exact hne (a1.symm.trans hgo)
        · rw [a1] at hgo; have := Option.some.inj hgo; omega
    · rcases a1 with a1 | a1
      · exact .inl (a1.symm.trans hk)
      · rw [a1] at hk; exact .inr (Option.some.inj hk).symm
  clear hR hv g1 o1 a1 hr1 hne
  go_enter Tryd.func13, Tryd.ntmps13
  go_wp2
  go_ret
  exact ⟨rfl, POST.out⟩
set_option maxHeartbeats 1000000 in
theorem padded_z (l : List Nat) (hl : l.length ≤ 1048576) (v : Value) (w : World) (hv : Byz v l w) :
    Calls Tryd.prog 5 #[v] w fun e w' => ∃ x, e = .returned x ∧ Below w.heap.size w w' ∧ w'.ownsRow w.heap.size 5 1 x (l.length + 8) (bs (l ++ marks)).toList := by
  obtain ⟨v1, w1, hr1, ho1, hg1, _⟩ := run_append_at w w.heap.size 0 22 (.slice none 0 0) v [] l (World.ownsRow_nil _ _ _ _) hv (by omega) (Nat.le_refl _)
  rw [List.nil_append, Nat.zero_add] at ho1
  have bel1 : Below w.heap.size w w1 := below_grown (Below.refl _ w) hg1 (Nat.le_refl _) (fun g hg => by cases hg)
  have hz1 := bel1.size
  have hy0 : YtkppejaigodgiacDoor.Byl (.slice (some ⟨w1.heap.size, 0, none⟩) 8 8) marks (w1.alloc (.cells (bs marks) 5)) := YtkppejaigodgiacDoor.byl_row (l := marks) (heap_alloc_new w1 (.cells (bs marks) 5)) (by decide)
  obtain ⟨v2, w2, hr2, ho2, hg2, _⟩ := run_append_at (w1.alloc (.cells (bs marks) 5)) w.heap.size l.length 22 v1 _ l marks (ho1.alloc _) (.inl hy0) (by simp [marks]; omega) (by simp; omega)
  have bel2 : Below w.heap.size w w2 := below_grown (bel1.alloc (by omega) _) hg2 (by simp; omega) (fun g hg => by have := (ho1.lt g hg).1; omega)
  have HO : Hid (w2.ownsRow w.heap.size 5 1 v2 (l.length + 8) (bs (l ++ marks)).toList) := ho2
  have hr2' : (appR 22 #[v1, .slice (some ⟨w1.heap.size, 0, none⟩) 8 8]).run Tryd.prog (w1.alloc (.cells #[.int .u8 195, .int .u8 60, .int .u8 195, .int .u8 60, .int .u8 195, .int .u8 60, .int .u8 195, .int .u8 60] 5)) = .ok v2 w2 := hr2
  clear ho1 ho2 hg1 hg2 hr2 hy0
  go_enter Tryd.func5, Tryd.ntmps5
  go_wp2
  go_ret
  exact ⟨_, rfl, bel2, HO.out⟩
set_option maxHeartbeats 800000 in
theorem cloneR (B : Nat) (m : List Nat) (h : Nat) (d : Value) (w : World) (hR : Rk B m h d w) (hn : m.length ≤ 1099511627776) :
    Calls Tryd.prog 19 #[.pointer (some ⟨h, 0, none⟩)] w fun e w' => ∃ h' d', e = .returned (.pointer (some ⟨h', 0, none⟩)) ∧ Rk w.heap.size m h' d' w' ∧ w.heap.size ≤ h' ∧ ¬ d'.ownBlock = some h' ∧ Below w.heap.size w w' := by
  have hy := (YtkppejaigodgiacDoor.byl_own hR.2).1
  obtain ⟨d', w1, r1, o1, g1, a1⟩ := run_append_at w w.heap.size 0 22 (.slice none 0 0) d [] m (World.ownsRow_nil _ _ _ _) (.inl hy) (by omega) (Nat.le_refl _)
  rw [List.nil_append, Nat.zero_add] at o1
  obtain ⟨o, c, rfl, _⟩ := hy.form
  obtain ⟨o3, c3, rfl, _⟩ := (YtkppejaigodgiacDoor.byl_own o1).1.form
  have c0 : w.cell? ⟨h, 0, none⟩ = some (.slice o m.length c) := (cell_of_row w h 0 _ _ _ hR.1).trans rfl
  have POST : Hid (Rk w.heap.size m w1.heap.size (.slice o3 m.length c3) (w1.alloc (.cells #[.slice o3 m.length c3] 51)) ∧ w.heap.size ≤ w1.heap.size ∧ ¬ (Value.slice o3 m.length c3).ownBlock = some w1.heap.size ∧ Below w.heap.size w (w1.alloc (.cells #[.slice o3 m.length c3] 51))) := by
    have hb : Below w.heap.size w w1 := ⟨g1.os, g1.tape, g1.output, g1.size, fun j hj => g1.block j hj (fun h => by simp [Value.ownBlock] at h)⟩
    refine ⟨⟨heap_alloc_new _ _, o1.alloc _⟩, g1.size, fun e => ?_, hb.alloc g1.size _⟩
    have := (o1.lt _ e).2
    omega
  clear hR hy g1 o1 a1
  go_enter Tryd.func19, Tryd.ntmps19
  go_wp2
  go_ret
  exact ⟨_, _, rfl, POST.out⟩
theorem size25x : (Tryd.prog.info? 25).map (·.size) = some 32 := by kernel_rfl
def st25 (p v : Value) : Sem Unit := Instr.storeAt 25 p v
theorem toSt25 (p v : Value) : Instr.storeAt 25 p v = st25 p v := rfl
theorem run_st25 (w : World) (g : Nat) (old l : List Nat) (hg : w.heap[g]? = some (.cells (bs old) 25 (0, 0))) (h1 : old.length = 32) (h2 : l.length = 32) : (st25 (.pointer (some ⟨g, 0, none⟩)) (.agg (bs l))).run Tryd.prog w = .ok () (w.setRow g (bs l)) := by
  unfold st25
  simp only [Instr.storeAt, Instr.sureAddr, Sem.run_bind, Sem.run_pure, Result.andThen_ok, run_storeVar_row w g 25 25 (bs old) (bs l) hg (by rw [size25x, bs_size, h2]) (by rw [bs_size, bs_size, h1, h2]) (bs_one _)]
attribute [local go_sem ↓] toSt25
theorem bs_z32 : bs (List.replicate 32 0) = #[.int .u8 0, .int .u8 0, .int .u8 0, .int .u8 0, .int .u8 0, .int .u8 0, .int .u8 0, .int .u8 0, .int .u8 0, .int .u8 0, .int .u8 0, .int .u8 0, .int .u8 0, .int .u8 0, .int .u8 0, .int .u8 0, .int .u8 0, .int .u8 0, .int .u8 0, .int .u8 0, .int .u8 0, .int .u8 0, .int .u8 0, .int .u8 0, .int .u8 0, .int .u8 0, .int .u8 0, .int .u8 0, .int .u8 0, .int .u8 0, .int .u8 0, .int .u8 0] := by kernel_rfl
set_option maxHeartbeats 800000 in
theorem sumR (B : Nat) (m : List Nat) (hmb : Byt m) (h : Nat) (d : Value) (w : World) (hR : Rk B m h d w) (hn : m.length ≤ 1099511627776) (ht : Tr w) (hsz : 3 < w.heap.size) :
    Calls Tryd.prog 15 #[.pointer (some ⟨h, 0, none⟩)] w fun e w' => e = .returned (.agg (bs (sha m))) ∧ Below w.heap.size w w' := by
  have hy := (YtkppejaigodgiacDoor.byl_own hR.2).1
  have hh : h < w.heap.size := (Array.getElem?_eq_some_iff.1 hR.1).1
  obtain ⟨W0, hW0⟩ : ∃ W0, w.alloc (.cells #[.int .u8 0, .int .u8 0, .int .u8 0, .int .u8 0, .int .u8 0, .int .u8 0, .int .u8 0, .int .u8 0, .int .u8 0, .int .u8 0, .int .u8 0, .int .u8 0, .int .u8 0, .int .u8 0, .int .u8 0, .int .u8 0, .int .u8 0, .int .u8 0, .int .u8 0, .int .u8 0, .int .u8 0, .int .u8 0, .int .u8 0, .int .u8 0, .int .u8 0, .int .u8 0, .int .u8 0, .int .u8 0, .int .u8 0, .int .u8 0, .int .u8 0, .int .u8 0] 25) = W0 := ⟨_, rfl⟩
  have b0 : Below w.heap.size w W0 := by rw [← hW0]; exact (Below.refl _ w).alloc (Nat.le_refl _) _
  have r0 : W0.heap[w.heap.size]? = some (.cells (bs (List.replicate 32 0)) 25 (0, 0)) := by rw [← hW0, bs_z32]; exact heap_alloc_new _ _
  have C : Hid (Calls Tryd.prog 24 #[d] W0 fun e w' => e = .returned (.agg (bs (sha m))) ∧ Below W0.heap.size W0 w') := ofR_tb m d (by omega) hmb W0 (ht.below b0 hsz) (hy.below b0)
  obtain ⟨o, c, rfl, _⟩ := hy.form
  have c0 : W0.cell? ⟨h, 0, none⟩ = some (.slice o m.length c) := (World.cell?_of_block (w := w) (b0.block h hh)).trans ((cell_of_row w h 0 _ _ _ hR.1).trans rfl)
  have B0 : Hid (Below w.heap.size w W0 ∧ W0.heap[w.heap.size]? = some (.cells (bs (List.replicate 32 0)) 25 (0, 0))) := ⟨b0, r0⟩
  clear hR hy b0 r0
  have hsl := sha_len m
  revert C hsl
  generalize sha m = S
  intro C hsl
  clear hmb hn ht
  go_enter Tryd.func15, Tryd.ntmps15
  go_wp2_with fail
  refine Calls.mono C.out ?_
  rintro e w1 ⟨rfl, b1⟩
  have hlt : w.heap.size < W0.heap.size := (Array.getElem?_eq_some_iff.1 B0.out.2).1
  have r1 : w1.heap[w.heap.size]? = some (.cells (bs (List.replicate 32 0)) 25 (0, 0)) := (b1.block _ hlt).trans B0.out.2
  have B1 : Hid (Below w.heap.size w w1) := B0.out.1.trans (b1.mono (Nat.le_of_lt hlt))
  clear b1 C
  have st := run_st25 w1 _ _ S r1 (by simp) hsl
  have r2 : (w1.setRow w.heap.size (bs S)).heap[w.heap.size]? = some (.cells (bs S) 25 (0, 0)) := setRow_heap _ _ _ _ _ _ r1
  go_wp2
  refine bodyPost_ret (v := .agg (bs S)) (results_cell_row rfl _ _ w.heap.size 25 _ (0, 0) _ rfl r2 Tryd.underlying25 rfl (by rw [size25x, bs_size, hsl])) rfl ?_
  exact ⟨rfl, below_setRow B1.out (Nat.le_refl _) _⟩
end Go.Proofs.YtkppejaigodgiacDoor.Sha
