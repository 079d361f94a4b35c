/- Slices of bytes of no capacity, whatever their address: a Write of one, an append of one. -/
import Derived.Test.YtkppejaigodgiabDoorShTc
namespace Go.Proofs.YtkppejaigodgiabDoor.Sha
open Go.RowKit
set_option maxHeartbeats 1000000 in
/-- A Write of nothing, whatever its address. -/
theorem write_zero (p : Option Addr) (sn : List Nat) (hsn : sn.length = 8) (g : Nat) (st rest : List Nat) (n : Nat) (hst : st.length = 8) (hrs : rest.length = 64) (hn : n ≤ 1152921504606846976) (w : World)
    (hS : Hid (∀ j, j < 8 → w.cell? ⟨5, j, none⟩ = some (.int .u32 ((sn.getD j 0 : Nat) : Int)))) (hh : Hid (w.heap[g]? = some (.cells (hs st rest n) 76 (0, 0)))) :
    Calls Tryd.prog 29 #[.pointer (some ⟨g, 0, none⟩), .slice p 0 0] w fun e w' => e = .returned (.int .i64 0) ∧
      Hid (w'.heap[g]? = some (.cells (hs (begS sn st n) rest n) 76 (0, 0))) ∧ Touch g w w' := by
  have cn : w.cell? ⟨g, 72, none⟩ = some (.int .i64 (n : Int)) := by rw [cell_of_row w _ _ _ _ _ hh.out, hs_len _ _ _ hst hrs]
  have hn2 : ¬ (1152921504606846976 - (n : Int) < 0) := by omega
  have bl : (begS sn st n).length = 8 := by unfold begS; split <;> assumption
  go_enter Tryd.func29, Tryd.ntmps29
  go_wp2_with fail
  refine (begin_any g sn st rest n hsn hst hrs w hS hh).mono ?_
  rintro e W1 ⟨rfl, row1, tch1⟩
  have cn1 : W1.cell? ⟨g, 72, none⟩ = some (.int .i64 (n : Int)) := by rw [cell_of_row W1 _ _ _ _ _ row1.out, hs_len _ _ _ bl hrs]
  have fz1 : ∀ i, W1.frozen? ⟨g, i, none⟩ = false := fun i => frozen_of_row W1 _ i _ _ row1.out
  have hal : Tryd.prog.arrayLen 58 = 64 := by kernel_rfl
  have hu00 : (0 : Int) ≤ (n : Int) % 64 := by omega
  have hu1 : (n : Int) % 64 ≤ 64 := by omega
  have hu2 : ((n : Int) % 64).toNat = n % 64 := by omega
  have hu3 : ¬ (64 = n % 64) := by omega
  have row2 : Hid ((W1.setCell ⟨g, 72, none⟩ (Value.int IntKind.i64 (n : Int))).heap[g]? = some (.cells (hs (begS sn st n) rest n) 76 (0, 0))) := (heap_setCell_same _ _ _ _ _ _ row1.out).trans (by rw [hs_set_len _ _ _ _ bl hrs])
  have tch2 : Touch g w (W1.setCell ⟨g, 72, none⟩ (Value.int IntKind.i64 (n : Int))) := tch1.setCell _
  have hcn := fun (w : World) (o m c ty : Nat) => run_copy_none (P := Tryd.prog) w 22 22 ty 5 (some ⟨g, o, none⟩) p m c 0 0 Tryd.underlying22 size5 (by exact Nat.zero_min _)
  by_cases hu : n % 64 = 0
  · have hu' : (n : Int) % 64 = 0 := by omega
    go_wp2
    revert row2 tch2
    generalize W1.setCell ⟨g, 72, none⟩ (Value.int IntKind.i64 (n : Int)) = W2
    intro row2 tch2
    go_loopw [1] (fun v wr => v = .slice p 0 0 ∧ wr = W2) (fun _ _ => 0)
    case atStart => exact ⟨rfl, rfl⟩
    case round =>
      obtain ⟨rfl, rfl⟩ := hrel
      go_wp2
      go_ret
      exact ⟨rfl, row2, tch2⟩
  · have hu' : 0 < (n : Int) % 64 := by omega
    have hu4 : (n : Int) % 64 + 0 < 64 := by omega
    have hu5 : (n : Int) % 64 < 64 := by omega
    go_wp2
    go_ret
    exact ⟨rfl, row2, tch2⟩
/-- A slice of bytes, or one of no capacity, whatever its address. -/
def Byz (v : Value) (d : List Nat) (w : World) : Prop := Byl v d w ∨ ∃ p, v = .slice p 0 0 ∧ d = []
theorem Byz.keep {v : Value} {d : List Nat} {w w' : World} (h : Byz v d w) (hb : Below w.heap.size w w') : Byz v d w' := by
  rcases h with h | h
  · exact .inl (h.keep hb.size hb.block)
  · exact .inr h
theorem write_tz (g : Nat) (m d : List Nat) (hdb : Byt d) (hn : m.length + d.length ≤ 1152921504606846976) (v : Value) (w0 w : World) (hv : Byz v d w0) (hg0 : w0.heap.size ≤ g) (hb : Below w0.heap.size w0 w) (hg : g ≠ 6) (ht : Tb w) (hT : Took roundN startN m g w) :
    Calls Tryd.prog 29 #[.pointer (some ⟨g, 0, none⟩), v] w fun e w' => e = .returned (.int .i64 0) ∧ Took roundN startN (m ++ d) g w' ∧ Touch g w w' := by
  rcases hv with hv | ⟨p, rfl, rfl⟩
  · exact write_took roundN startN mixOK rfl startN_wrd g m d hdb hn v w (hv.bts g hg0 hb.size hb.block) hg ht.sz ht.s ht.k hT
  · obtain ⟨st, rest, hst, hrs, hsw, hrb, hh, hbeg, hrt⟩ := hT
    have bl : (begS startN st m.length).length = 8 := by unfold begS; split <;> first | rfl | assumption
    have bw : Wrd (begS startN st m.length) := by unfold begS; split <;> first | exact startN_wrd | assumption
    refine (write_zero p startN rfl g st rest m.length hst hrs (by simpa using hn) w ht.s hh).mono fun e w' ⟨he, hr, ht'⟩ => ⟨he, ?_, ht'⟩
    rw [List.append_nil]
    refine ⟨_, rest, bl, hrs, bw, hrb, hr.out, ?_, hrt⟩
    rw [← hbeg]; unfold begS; split <;> rfl
/-- A slice of slices of bytes, some of no capacity. -/
def Pcz (pv : Value) (ds : List (List Nat)) (w : World) : Prop :=
  (pv = .slice none 0 0 ∧ ds = []) ∨ ∃ p off cap, ∃ vs : List Value, pv = .slice (some ⟨p, off, none⟩) ds.length cap ∧ ds.length ≤ cap ∧ cap ≤ maxLen ∧ p < w.heap.size ∧ vs.length = ds.length ∧ (∀ j (h : j < vs.length), w.cell? ⟨p, off + j, none⟩ = some (vs[j]'h)) ∧ (∀ j (h1 : j < vs.length) (h2 : j < ds.length), Byz (vs[j]'h1) (ds[j]'h2) w)
theorem Pcz.shape {pv : Value} {ds : List (List Nat)} {w : World} (h : Pcz pv ds w) : ∃ o c, pv = .slice o ds.length c := by
  rcases h with ⟨h, h2⟩ | ⟨p, off, cap, vs, h, _⟩
  · exact ⟨none, 0, by rw [h, h2]; rfl⟩
  · exact ⟨_, _, h⟩
theorem app_byz (w : World) (base n ty : Nat) (v sv : Value) (l e : List Nat) (hown : w.ownsRow base 5 1 v n (bs l).toList) (hs : Byz sv e w) (hb : n + e.length ≤ 140737488355328) (hbase : base ≤ w.heap.size) :
    ∃ v' w', (appR ty #[v, sv]).run Tryd.prog w = .ok v' w' ∧ w'.ownsRow base 5 1 v' (n + e.length) (bs (l ++ e)).toList ∧ w.grownBy w' v.ownBlock := by
  rcases hs with hs | ⟨p, rfl, rfl⟩
  · exact run_append_byl w base n ty v sv l e hown hs hb hbase
  · cases p with
    | none => exact run_append_byl w base n ty v _ l [] hown (.inl ⟨rfl, rfl⟩) hb hbase
    | some a =>
      obtain ⟨i0, hi0, hz0, hz1, hz2⟩ := info_parts info5
      obtain ⟨v', w', hr, ho, hg, _⟩ := run_append_own (P := Tryd.prog) w base 22 ty 5 i0 _ 1 1 Tryd.underlying22 hi0 hz0 hz1 hz2 rfl (by omega) v n _ hown a 0 0 [] rfl (fun j u hu => by simp at hu) (fun u hu => by cases hu) (by unfold maxLen; simp at hb; omega) (by simp at hb; omega) hbase
      refine ⟨v', w', hr, ?_, hg⟩
      rw [List.append_nil]; rw [List.append_nil] at ho; exact ho
end Go.Proofs.YtkppejaigodgiabDoor.Sha
