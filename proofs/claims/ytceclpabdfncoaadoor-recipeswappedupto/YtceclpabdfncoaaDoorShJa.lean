/- Several texts in one: ShShaM, ShWords, ShSpread, ShMixTail. -/
import Derived.Test.YtceclpabdfncoaaDoorRows
import Derived.Test.YtceclpabdfncoaaDoorBytes
import Derived.Deep.QuietTactic
import Derived.BigQuiet
import Derived.Deep.RegionHeld3
import Derived.BigRegion
/- SHA-256's words, on natural numbers. -/
namespace Go.Proofs.YtceclpabdfncoaaDoor.Sha
/-- A word turned right by n places. -/
def ror (x n : Nat) : Nat := (x * 2 ^ (32 - n) % 4294967296) ||| (x / 2 ^ n)
theorem ror_lt (x n : Nat) (hx : x < 4294967296) : ror x n < 4294967296 := by
  unfold ror
  exact Nat.or_lt_two_pow (n := 32) (Nat.mod_lt _ (by decide)) (Nat.lt_of_le_of_lt (Nat.div_le_self _ _) hx)
/-- The XOR of a word turned right in three ways. -/
def tri (x i j k : Nat) : Nat := ror x i ^^^ ror x j ^^^ ror x k
theorem xor_lt {a b : Nat} (ha : a < 4294967296) (hb : b < 4294967296) : a ^^^ b < 4294967296 := Nat.xor_lt_two_pow (n := 32) ha hb
theorem and_lt {a b : Nat} (ha : a < 4294967296) : a &&& b < 4294967296 := Nat.lt_of_le_of_lt Nat.and_le_left ha
theorem tri_lt (x i j k : Nat) (hx : x < 4294967296) : tri x i j k < 4294967296 := xor_lt (xor_lt (ror_lt _ _ hx) (ror_lt _ _ hx)) (ror_lt _ _ hx)
/-- Two words added. -/
def add (a b : Nat) : Nat := (a + b) % 4294967296
theorem add_lt (a b : Nat) : add a b < 4294967296 := Nat.mod_lt _ (by decide)
/-- A list of words. -/
def Wrd (l : List Nat) : Prop := ∀ x ∈ l, x < 4294967296
theorem wrd_get {l : List Nat} (h : Wrd l) (i : Nat) : l.getD i 0 < 4294967296 := by
  by_cases hi : i < l.length
  · have : l.getD i 0 = l[i] := by simp [List.getD, hi]
    rw [this]; exact h _ (List.getElem_mem hi)
  · simp [List.getD, hi]
theorem wrd_set {l : List Nat} (h : Wrd l) (i v : Nat) (hv : v < 4294967296) : Wrd (l.set i v) := by
  intro x hx
  rcases List.mem_or_eq_of_mem_set hx with h' | h'
  · exact h x h'
  · omega
/-- The word of four bytes. -/
def word (blk : List Nat) (t : Nat) : Nat := ((blk.getD (4 * t) 0 * 16777216 ||| blk.getD (4 * t + 1) 0 * 65536) ||| blk.getD (4 * t + 2) 0 * 256) ||| blk.getD (4 * t + 3) 0
/-- Behind k rounds of the first loop. -/
def w16 (blk : List Nat) : Nat → List Nat
  | 0 => List.replicate 64 0
  | k + 1 => (w16 blk k).set k (word blk k)
theorem w16_len (blk : List Nat) : ∀ k, (w16 blk k).length = 64
  | 0 => by simp [w16]
  | k + 1 => by simp [w16, w16_len blk k]
/-- The word that is made of earlier ones. -/
def sg (a i j d : Nat) : Nat := ror a i ^^^ ror a j ^^^ a / d
def nextw (l : List Nat) (t : Nat) : Nat := add (add (add (l.getD (t - 16) 0) (sg (l.getD (t - 15) 0) 7 18 8)) (l.getD (t - 7) 0)) (sg (l.getD (t - 2) 0) 17 19 1024)
theorem sg_lt (a i j d : Nat) (ha : a < 4294967296) : sg a i j d < 4294967296 := xor_lt (xor_lt (ror_lt _ _ ha) (ror_lt _ _ ha)) (Nat.lt_of_le_of_lt (Nat.div_le_self _ _) ha)
/-- Behind k rounds of the second loop. -/
def w64 (blk : List Nat) : Nat → List Nat
  | 0 => w16 blk 16
  | k + 1 => (w64 blk k).set (16 + k) (nextw (w64 blk k) (16 + k))
theorem w64_len (blk : List Nat) : ∀ k, (w64 blk k).length = 64
  | 0 => w16_len blk 16
  | k + 1 => by rw [w64, List.length_set, w64_len blk k]
theorem word_lt (blk : List Nat) (hb : ∀ b ∈ blk, b < 256) (t : Nat) : word blk t < 4294967296 := by
  have g : ∀ i, blk.getD i 0 < 256 := fun i => by
    by_cases hi : i < blk.length
    · have : blk.getD i 0 = blk[i] := by simp [List.getD, hi]
      rw [this]; exact hb _ (List.getElem_mem hi)
    · simp [List.getD, hi]
  unfold word
  have h0 := g (4 * t); have h1 := g (4 * t + 1); have h2 := g (4 * t + 2); have h3 := g (4 * t + 3)
  exact Nat.or_lt_two_pow (n := 32) (Nat.or_lt_two_pow (n := 32) (Nat.or_lt_two_pow (n := 32) (by omega) (by omega)) (by omega)) (by omega)
theorem w16_wrd (blk : List Nat) (hb : ∀ b ∈ blk, b < 256) : ∀ k, Wrd (w16 blk k)
  | 0 => fun x hx => by have : x = 0 := List.eq_of_mem_replicate hx; omega
  | k + 1 => wrd_set (w16_wrd blk hb k) _ _ (word_lt blk hb k)
theorem w64_wrd (blk : List Nat) (hb : ∀ b ∈ blk, b < 256) : ∀ k, Wrd (w64 blk k)
  | 0 => w16_wrd blk hb 16
  | k + 1 => wrd_set (w64_wrd blk hb k) _ _ (add_lt _ _)
/-- A block's 64 words. -/
def sched (blk : List Nat) : List Nat := w64 blk 48
theorem sched_len (blk : List Nat) : (sched blk).length = 64 := w64_len blk 48
theorem sched_wrd (blk : List Nat) (hb : ∀ b ∈ blk, b < 256) : Wrd (sched blk) := w64_wrd blk hb 48
/-- One round: eight words. -/
structure St where
  a : Nat
  b : Nat
  c : Nat
  d : Nat
  e : Nat
  f : Nat
  g : Nat
  h : Nat
def St.ok (s : St) : Prop := s.a < 4294967296 ∧ s.b < 4294967296 ∧ s.c < 4294967296 ∧ s.d < 4294967296 ∧ s.e < 4294967296 ∧ s.f < 4294967296 ∧ s.g < 4294967296 ∧ s.h < 4294967296
def xs (s : St) (k w : Nat) : Nat := add (add (add (add s.h (tri s.e 6 11 25)) ((s.e &&& s.f) ^^^ ((4294967295 - s.e) &&& s.g))) k) w
def ys (s : St) : Nat := add (tri s.a 2 13 22) (((s.a &&& s.b) ^^^ (s.a &&& s.c)) ^^^ (s.b &&& s.c))
def round (s : St) (k w : Nat) : St := ⟨add (xs s k w) (ys s), s.a, s.b, s.c, add s.d (xs s k w), s.e, s.f, s.g⟩
theorem round_ok (s : St) (k w : Nat) (h : s.ok) : (round s k w).ok :=
  ⟨add_lt _ _, h.1, h.2.1, h.2.2.1, add_lt _ _, h.2.2.2.2.1, h.2.2.2.2.2.1, h.2.2.2.2.2.2.1⟩
/-- Behind k rounds. -/
def rounds (ks ws : List Nat) (s : St) : Nat → St
  | 0 => s
  | k + 1 => round (rounds ks ws s k) (ks.getD k 0) (ws.getD k 0)
theorem rounds_ok (ks ws : List Nat) (s : St) (h : s.ok) : ∀ k, (rounds ks ws s k).ok
  | 0 => h
  | k + 1 => round_ok _ _ _ (rounds_ok ks ws s h k)
def stOf (l : List Nat) : St := ⟨l.getD 0 0, l.getD 1 0, l.getD 2 0, l.getD 3 0, l.getD 4 0, l.getD 5 0, l.getD 6 0, l.getD 7 0⟩
theorem stOf_ok (l : List Nat) (h : Wrd l) : (stOf l).ok := ⟨wrd_get h _, wrd_get h _, wrd_get h _, wrd_get h _, wrd_get h _, wrd_get h _, wrd_get h _, wrd_get h _⟩
/-- The state behind one more block, from what the 64 rounds leave. -/
def joinS (l : List Nat) (s : St) : List Nat := [add (l.getD 0 0) s.a, add (l.getD 1 0) s.b, add (l.getD 2 0) s.c, add (l.getD 3 0) s.d, add (l.getD 4 0) s.e, add (l.getD 5 0) s.f, add (l.getD 6 0) s.g, add (l.getD 7 0) s.h]
def mixN (ks l blk : List Nat) : List Nat := joinS l (rounds ks (sched blk) (stOf l) 64)
theorem mixN_len (ks l blk : List Nat) : (mixN ks l blk).length = 8 := rfl
theorem mixN_wrd (ks l blk : List Nat) : Wrd (mixN ks l blk) := by
  intro x hx
  simp only [mixN, joinS, List.mem_cons, List.not_mem_nil, or_false] at hx
  rcases hx with h | h | h | h | h | h | h | h <;> (rw [h]; exact add_lt _ _)
end Go.Proofs.YtceclpabdfncoaaDoor.Sha

namespace Go.Proofs.YtceclpabdfncoaaDoor.Sha
open Go.RowKit
/-- A list of words as cells. -/
def ws (l : List Nat) : Array Value := (l.map fun (b : Nat) => Value.int .u32 (b : Int)).toArray
theorem ws_size (l : List Nat) : (ws l).size = l.length := by simp [ws]
theorem ws_get (l : List Nat) (k : Nat) (h : k < l.length) : (ws l)[k]? = some (.int .u32 ((l.getD k 0 : Nat) : Int)) := by
  simp [ws, List.getD, h]
theorem ws_set (l : List Nat) (k b : Nat) : (ws l).setIfInBounds k (.int .u32 (b : Int)) = ws (l.set k b) := by
  simp [ws, List.map_set]
theorem ws_one (l : List Nat) : (ws l).all (·.oneCell') = true := by
  simp [ws, Value.oneCell']
section
variable {P : Program} {t e : TypeId} {n : Nat}
theorem run_part_ws (w : World) (he : P.underlying e = some (.int .u32)) (l : List Nat) (k : Nat) (hk : k < l.length) :
    (part e (ws l) k).run P w = .ok (.int .u32 ((l.getD k 0 : Nat) : Int)) w := by
  have hagg : (isAgg e).run P w = .ok false w := by
    unfold isAgg
    rw [Sem.run_bind, run_underlying he w]
    simp
  simp [part, Sem.run_bind, hagg, ws_get l k hk]
theorem run_index_ws (w : World) (ht : P.underlying t = some (.array n e)) (he : P.underlying e = some (.int .u32)) (h1 : (P.info? e).map (·.size) = some 1) (l : List Nat) (hl : l.length = n) (k : Nat) (hk : k < n) :
    (Instr.index t (.agg (ws l)) (.int .i64 (k : Int))).run P w = .ok (.int .u32 ((l.getD k 0 : Nat) : Int)) w := by
  have hp := run_part_ws (P := P) w he l k (by omega)
  simp [Instr.index, asIntOf, Sem.run_bind, run_underlying ht, run_size_bs w h1, hk, hp]
end
theorem size5 : (Tryd.prog.info? 5).map (·.size) = some 1 := by kernel_rfl
theorem size40 : (Tryd.prog.info? 95).map (·.size) = some 1 := by kernel_rfl
theorem size41 : (Tryd.prog.info? 96).map (·.size) = some 8 := by kernel_rfl
theorem size48 : (Tryd.prog.info? 127).map (·.size) = some 64 := by kernel_rfl
theorem size28 : (Tryd.prog.info? 57).map (·.size) = some 32 := by kernel_rfl
theorem alloc_at (w : World) (o : Obj) (n : Nat) (h : n = w.heap.size) : (w.alloc o).heap[n]? = some o := by
  subst h
  exact heap_alloc_new w o
theorem below_setRow {B : Nat} {a w : World} (h : Below B a w) {g : Nat} (hg : B ≤ g) (cs : Array Value) : Below B a (w.setRow g cs) :=
  ⟨h.os, h.tape, h.output, by simpa using h.size, fun j hj => (setRow_other _ _ _ _ (by omega)).trans (h.block j hj)⟩
theorem ret_int {k : IntKind} {a b : Int} (h : a = b) : Ending.returned (.int k a) = .returned (.int k b) := by rw [h]
theorem and31 (n : Nat) (h1 : 0 < n) (h2 : n < 32) : bits BinOp.and IntKind.u64 (IntKind.u64.wrap (-(n : Int))) 31 = ((32 - n : Nat) : Int) := by
  have e : IntKind.u64.wrap (-(n : Int)) = ((18446744073709551616 - n : Nat) : Int) := by
    simp [IntKind.wrap, IntKind.bits, IntKind.signed]; omega
  rw [e, show (31 : Int) = ((31 : Nat) : Int) from rfl, u64_and_nat _ _ (by omega) (by decide)]
  rw [show (31 : Nat) = 2 ^ 5 - 1 from rfl, Nat.and_two_pow_sub_one_eq_mod]
  omega
set_option maxHeartbeats 400000 in
theorem rot_any (x n m : Nat) (hx : x < 4294967296) (hm : Hid (m = 32 - n)) (h1 : 0 < n) (h2 : n < 32) (w : World) : Calls Tryd.prog 70 #[.int .u32 (x : Int), .int .i64 (-(n : Int))] w fun e w' => e = .returned (.int .u32 ((ror x n : Nat) : Int)) ∧ w' = w := by
  have hand := and31 n h1 h2
  rw [← hm.out] at hand
  have hm1 : m < 32 := by have := hm.out; omega
  have hm2 : (m : Int) < 32 := by omega
  go_enter Tryd.func70, Tryd.ntmps70
  go_wp2
  go_ret
  refine ⟨ret_int ?_, rfl⟩
  have e1 : ((x : Int) * 2 ^ m % 4294967296) = ((x * 2 ^ m % 4294967296 : Nat) : Int) := by simp only [Int.natCast_emod, Int.natCast_mul, Int.natCast_pow]; rfl
  have e2 : ((x : Int) / 2 ^ (32 - m)) = ((x / 2 ^ (32 - m) : Nat) : Int) := by simp only [Int.natCast_ediv, Int.natCast_pow]; rfl
  rw [e1, e2, u32_or_nat _ _ (Nat.mod_lt _ (by decide)) (Nat.lt_of_le_of_lt (Nat.div_le_self _ _) hx)]
  unfold ror
  rw [← hm.out, show 32 - m = n by have := hm.out; omega]
set_option maxHeartbeats 400000 in
theorem right_any (x n : Nat) (hx : x < 4294967296) (h1 : 0 < n) (h2 : n < 32) (w : World) : Calls Tryd.prog 69 #[.int .u32 (x : Int), .int .i64 (n : Int)] w fun e w' => e = .returned (.int .u32 ((ror x n : Nat) : Int)) ∧ w' = w := by
  have h3 : (n : Int) < 32 := by omega
  go_enter Tryd.func69, Tryd.ntmps69
  go_wp2_with (go_at_call 70; refine (rot_any x n _ hx rfl h1 h2 _).mono ?_; rintro e w' ⟨rfl, rfl⟩)
  go_ret
  exact ⟨rfl, rfl⟩
set_option maxHeartbeats 400000 in
theorem turns_any (x i j k : Nat) (hx : x < 4294967296) (hi1 : 0 < i) (hi2 : i < 32) (hj1 : 0 < j) (hj2 : j < 32) (hk1 : 0 < k) (hk2 : k < 32) (w : World) :
    Calls Tryd.prog 67 #[.int .u32 (x : Int), .int .i64 (i : Int), .int .i64 (j : Int), .int .i64 (k : Int)] w fun e w' => e = .returned (.int .u32 ((tri x i j k : Nat) : Int)) ∧ w' = w := by
  go_enter Tryd.func67, Tryd.ntmps67
  go_wp2_with fail
  refine (right_any x i hx hi1 hi2 _).mono ?_
  rintro e w' ⟨rfl, rfl⟩
  go_wp2_with fail
  refine (right_any x j hx hj1 hj2 _).mono ?_
  rintro e w' ⟨rfl, rfl⟩
  go_wp2_with fail
  refine (right_any x k hx hk1 hk2 _).mono ?_
  rintro e w' ⟨rfl, rfl⟩
  go_wp2
  go_ret
  refine ⟨ret_int ?_, rfl⟩
  rw [u32_xor_nat _ _ (ror_lt _ _ hx) (ror_lt _ _ hx), u32_xor_nat _ _ (xor_lt (ror_lt _ _ hx) (ror_lt _ _ hx)) (ror_lt _ _ hx)]
  rfl
end Go.Proofs.YtceclpabdfncoaaDoor.Sha

namespace Go.Proofs.YtceclpabdfncoaaDoor.Sha
open Go.RowKit
def z64 : List Nat := List.replicate 64 0
theorem cell_off {w : World} {g i o : Nat} {v x : Value} (h : w.cell? ⟨g, o, none⟩ = some x) (hne : i ≠ o) : (w.setCell ⟨g, i, none⟩ v).drew.drew.cell? ⟨g, o, none⟩ = some x :=
  (World.cell?_setCell_other w ⟨g, i, none⟩ ⟨g, o, none⟩ v (fun e => hne (congrArg Addr.off e))).trans h
theorem add_int (u v : Nat) : ((u : Int) + (v : Int)) % 4294967296 = ((add u v : Nat) : Int) := by unfold add; omega
theorem sg_int (a i j : Nat) (la : a < 4294967296) (d : Nat) (D : Int) (hD : D = (d : Int)) : bits BinOp.xor IntKind.u32 (bits BinOp.xor IntKind.u32 ((ror a i : Nat) : Int) ((ror a j : Nat) : Int)) ((a : Int) / D) = ((sg a i j d : Nat) : Int) := by
  subst hD
  rw [← Int.natCast_ediv, u32_xor_nat _ _ (ror_lt _ _ la) (ror_lt _ _ la), u32_xor_nat _ _ (xor_lt (ror_lt _ _ la) (ror_lt _ _ la)) (Nat.lt_of_le_of_lt (Nat.div_le_self _ _) la)]
  rfl
theorem byt_get {l : List Nat} (hl : Byt l) (i : Nat) : l.getD i 0 < 256 := by
  by_cases hi : i < l.length
  · have : l.getD i 0 = l[i] := by simp [List.getD, hi]
    rw [this]; exact hl _ (List.getElem_mem hi)
  · simp [List.getD, hi]
set_option maxHeartbeats 1000000 in
theorem spread_any (blk : List Nat) (hb : Byt blk) (b off cap : Nat) (hcap : 64 ≤ cap) (hmax : cap ≤ maxLen) (w : World) (hlt : b < w.heap.size) (hc : Hid (∀ j, j < 64 → w.cell? ⟨b, off + j, none⟩ = some (.int .u8 ((blk.getD j 0 : Nat) : Int)))) :
    Calls Tryd.prog 66 #[.slice (some ⟨b, off, none⟩) 64 cap] w fun e w' => e = .returned (.agg (ws (sched blk))) ∧ Below w.heap.size w w' := by
  unfold maxLen at hmax
  go_enter Tryd.func66, Tryd.ntmps66
  go_wp2
  go_loopw [9] (fun i wr => ∃ k : Nat, k ≤ 16 ∧ i = .int .i64 k ∧ Hid (wr.heap[w.heap.size + 1]? = some (.cells (ws (w16 blk k)) 127 (0, 0))) ∧ Hid (wr.heap[w.heap.size]? = some (.cells (ws z64) 127 (0, 0))) ∧ Below w.heap.size w wr) (fun i _ => 16 - (intOf i).toNat)
  case atStart =>
    refine ⟨0, by omega, rfl, ?_, ?_, ?_⟩
    · exact heap_alloc2_new _ _ _
    · exact heap_alloc2_old _ _ _
    · exact ((Below.refl _ _).alloc (Nat.le_refl _) _).alloc (by simp) _
  case round =>
    obtain ⟨k, hk, rfl, HW, HZ, hbl⟩ := hrel
    by_cases hlt16 : k < 16
    · have hk1 : (k : Int) < 16 := by omega
      have hk0 : (0 : Int) ≤ (k : Int) := by omega
      obtain ⟨x0, hx0⟩ : ∃ x, x = blk.getD (4 * k) 0 := ⟨_, rfl⟩
      obtain ⟨x1, hx1⟩ : ∃ x, x = blk.getD (4 * k + 1) 0 := ⟨_, rfl⟩
      obtain ⟨x2, hx2⟩ : ∃ x, x = blk.getD (4 * k + 2) 0 := ⟨_, rfl⟩
      obtain ⟨x3, hx3⟩ : ∃ x, x = blk.getD (4 * k + 3) 0 := ⟨_, rfl⟩
      have X0 : Hid (x0 = blk.getD (4 * k) 0) := hx0
      have X1 : Hid (x1 = blk.getD (4 * k + 1) 0) := hx1
      have X2 : Hid (x2 = blk.getD (4 * k + 2) 0) := hx2
      have X3 : Hid (x3 = blk.getD (4 * k + 3) 0) := hx3
      clear hx0 hx1 hx2 hx3
      have cell : ∀ j, j < 64 → wr.cell? ⟨b, off + j, none⟩ = some (.int .u8 ((blk.getD j 0 : Nat) : Int)) := fun j hj => (hbl.cell (by exact hlt)).trans (hc.out j hj)
      have c0 : wr.cell? ⟨b, off + 4 * k, none⟩ = some (.int .u8 (x0 : Int)) := by rw [X0.out]; exact cell _ (by omega)
      have c1 : wr.cell? ⟨b, off + 4 * k + 1, none⟩ = some (.int .u8 (x1 : Int)) := by rw [X1.out, Nat.add_assoc]; exact cell _ (by omega)
      have c2 : wr.cell? ⟨b, off + 4 * k + 2, none⟩ = some (.int .u8 (x2 : Int)) := by rw [X2.out, Nat.add_assoc]; exact cell _ (by omega)
      have c3 : wr.cell? ⟨b, off + 4 * k + 3, none⟩ = some (.int .u8 (x3 : Int)) := by rw [X3.out, Nat.add_assoc]; exact cell _ (by omega)
      have cw : wr.cell? ⟨w.heap.size + 1, k, none⟩ = some (.int .u32 (((w16 blk k).getD k 0 : Nat) : Int)) := by
        rw [cell_of_row wr _ _ _ _ _ HW.out, ws_get _ _ (by rw [w16_len]; omega)]
      have fw := frozen_of_row wr _ k _ _ HW.out
      have l0 : x0 < 256 := by rw [X0.out]; exact byt_get hb _
      have l1 : x1 < 256 := by rw [X1.out]; exact byt_get hb _
      have l2 : x2 < 256 := by rw [X2.out]; exact byt_get hb _
      have l3 : x3 < 256 := by rw [X3.out]; exact byt_get hb _
      have hne : b ≠ w.heap.size + 1 := by omega
      clear cell
      go_wp2_with fail
      rw [show 4 * k + 4 - 4 * k = 4 by omega]
      go_region
      go_wp2
      go_roundw
      case rel =>
        have ev : bits BinOp.or IntKind.u32 (bits BinOp.or IntKind.u32 (bits BinOp.or IntKind.u32 ((x0 : Int) * 16777216) ((x1 : Int) * 65536)) ((x2 : Int) * 256)) (x3 : Int) = ((word blk k : Nat) : Int) := by
          rw [show ((x0 : Int) * 16777216) = ((x0 * 16777216 : Nat) : Int) by omega, show ((x1 : Int) * 65536) = ((x1 * 65536 : Nat) : Int) by omega, show ((x2 : Int) * 256) = ((x2 * 256 : Nat) : Int) by omega]
          have b1 : x0 * 16777216 ||| x1 * 65536 < 4294967296 := Nat.or_lt_two_pow (n := 32) (by omega) (by omega)
          have b2 : x0 * 16777216 ||| x1 * 65536 ||| x2 * 256 < 4294967296 := Nat.or_lt_two_pow (n := 32) b1 (by omega)
          rw [u32_or_nat _ _ (by omega) (by omega), u32_or_nat _ _ b1 (by omega), u32_or_nat _ _ b2 (by omega)]
          unfold word
          rw [X0.out, X1.out, X2.out, X3.out]
        rw [ev]
        refine ⟨k + 1, by omega, by go_num, ?_, ?_, ?_⟩
        · exact (heap_setCell_same _ _ _ _ _ _ HW.out).trans (by rw [ws_set, w16])
        · exact (heap_setCell_other _ _ _ _ (by simp)).trans HZ.out
        · exact (hbl.setCell (by simp) _).drew
      case measure => simp [intOf]; omega
    · have hk16 : k = 16 := by omega
      have HW2 : Hid (wr.heap[w.heap.size + 1]? = some (.cells (ws (w64 blk 0)) 127 (0, 0))) := by rw [hk16] at HW; exact HW
      clear hk16 HW
      go_wp2
      go_loopw [6] (fun i wr => ∃ (n : Nat) (l : List Nat), n ≤ 48 ∧ i = .int .i64 ((16 + n : Nat) : Int) ∧ Hid (l = w64 blk n) ∧ Hid (wr.heap[w.heap.size + 1]? = some (.cells (ws l) 127 (0, 0))) ∧ Hid (wr.heap[w.heap.size]? = some (.cells (ws z64) 127 (0, 0))) ∧ Below w.heap.size w wr) (fun i _ => 64 - (intOf i).toNat)
      case atStart => exact ⟨0, _, by omega, rfl, rfl, HW2, HZ, hbl⟩
      case round =>
        clear HW2 HZ hbl
        obtain ⟨n, l, hn, rfl, Hl, HW, HZ, hbl⟩ := hrel
        obtain ⟨t, ht⟩ : ∃ t, t = 16 + n := ⟨_, rfl⟩
        rw [← ht]
        have ht16 : 16 ≤ t := by omega
        have ht64 : t ≤ 64 := by omega
        have HT : Hid (t = 16 + n) := ht
        clear ht
        by_cases hlt64 : t < 64
        · have hll : l.length = 64 := by rw [Hl.out, w64_len]
          have hwl : Wrd l := by rw [Hl.out]; exact w64_wrd blk hb n
          obtain ⟨a, ha⟩ : ∃ x, x = l.getD (t - 15) 0 := ⟨_, rfl⟩
          obtain ⟨c, hcc⟩ : ∃ x, x = l.getD (t - 2) 0 := ⟨_, rfl⟩
          obtain ⟨x, hx⟩ : ∃ x, x = l.getD (t - 16) 0 := ⟨_, rfl⟩
          obtain ⟨y, hy⟩ : ∃ x, x = l.getD (t - 7) 0 := ⟨_, rfl⟩
          have cr : ∀ j, j < 64 → wr.cell? ⟨w.heap.size + 1, j, none⟩ = some (.int .u32 ((l.getD j 0 : Nat) : Int)) := fun j hj => by
            rw [cell_of_row wr _ _ _ _ _ HW.out, ws_get _ _ (by omega)]
          have ca : wr.cell? ⟨w.heap.size + 1, t - 15, none⟩ = some (.int .u32 (a : Int)) := by rw [ha]; exact cr _ (by omega)
          have cc : wr.cell? ⟨w.heap.size + 1, t - 2, none⟩ = some (.int .u32 (c : Int)) := by rw [hcc]; exact cr _ (by omega)
          have cx : wr.cell? ⟨w.heap.size + 1, t - 16, none⟩ = some (.int .u32 (x : Int)) := by rw [hx]; exact cr _ (by omega)
          have cy : wr.cell? ⟨w.heap.size + 1, t - 7, none⟩ = some (.int .u32 (y : Int)) := by rw [hy]; exact cr _ (by omega)
          have ct : wr.cell? ⟨w.heap.size + 1, t, none⟩ = some (.int .u32 ((l.getD t 0 : Nat) : Int)) := cr _ hlt64
          have ft := frozen_of_row wr _ t _ _ HW.out
          have la : a < 4294967296 := by rw [ha]; exact wrd_get hwl _
          have lc : c < 4294967296 := by rw [hcc]; exact wrd_get hwl _
          have lx : x < 4294967296 := by rw [hx]; exact wrd_get hwl _
          have ly : y < 4294967296 := by rw [hy]; exact wrd_get hwl _
          have HN : Hid (nextw l t = add (add (add x (sg a 7 18 8)) y) (sg c 17 19 1024)) := by unfold nextw; rw [ha, hcc, hx, hy]; rfl
          have hi1 : (t : Int) < 64 := by omega
          have hi2 : (16 : Int) ≤ (t : Int) := by omega
          clear cr ha hcc hx hy
          go_wp2
          go_region
          go_wp2
          have g1 : IntKind.i64.wrap ((t : Int) - 16) = (t : Int) - 16 := by simp [IntKind.wrap, IntKind.bits, IntKind.signed]; omega
          have g2 : IntKind.i64.wrap ((t : Int) - 7) = (t : Int) - 7 := by simp [IntKind.wrap, IntKind.bits, IntKind.signed]; omega
          have g3 : (0 : Int) ≤ (t : Int) - 16 := by omega
          have g4 : (0 : Int) ≤ (t : Int) - 7 := by omega
          have g5 : (t : Int) - 16 < 64 := by omega
          have g6 : (t : Int) - 7 < 64 := by omega
          have g7 : ((t : Int) - 16).toNat = t - 16 := by omega
          have g8 : ((t : Int) - 7).toNat = t - 7 := by omega
          have g9 : (0 : Int) ≤ (t : Int) := by omega
          have ne16 : t ≠ t - 16 := by omega
          have ne7 : t ≠ t - 7 := by omega
          have g10 : (7 : Int) ≤ (t : Int) := by omega
          have g11 : (t : Int) < 71 := by omega
          have g12 : (t : Int) < 80 := by omega
          go_region_held3 (fun w' => w'.cell? ⟨w.heap.size + 1, t - 16, none⟩ = some (.int .u32 (x : Int)) ∧ w'.cell? ⟨w.heap.size + 1, t - 7, none⟩ = some (.int .u32 (y : Int))) (first | exact ⟨cell_off cx ne16, cell_off cy ne7⟩ | go_keep)
            (first
              | (go_at_call_of 69 (Value.int IntKind.i64 7); refine (right_any a 7 la (by decide) (by decide) _).mono ?_; rintro e w' ⟨rfl, rfl⟩)
              | (go_at_call_of 69 (Value.int IntKind.i64 18); refine (right_any a 18 la (by decide) (by decide) _).mono ?_; rintro e w' ⟨rfl, rfl⟩)
              | (go_at_call_of 69 (Value.int IntKind.i64 17); refine (right_any c 17 lc (by decide) (by decide) _).mono ?_; rintro e w' ⟨rfl, rfl⟩)
              | (go_at_call_of 69 (Value.int IntKind.i64 19); refine (right_any c 19 lc (by decide) (by decide) _).mono ?_; rintro e w' ⟨rfl, rfl⟩))
          go_wp2
          go_roundw
          case rel =>
            rw [sg_int a 7 18 la 8 8 rfl, sg_int c 17 19 lc 1024 1024 rfl, add_int, add_int, add_int, ← HN.out]
            refine ⟨n + 1, l.set t (nextw l t), by have := HT.out; omega, by rw [HT.out]; go_num, ?_, ?_, ?_, ?_⟩
            · show _ = _
              rw [w64, ← Hl.out, HT.out]
            · exact (heap_setCell_same _ _ _ _ _ _ HW.out).trans (by rw [ws_set])
            · exact (heap_setCell_other _ _ _ _ (by simp)).trans HZ.out
            · exact (hbl.setCell (by simp) _).drew.drew
          case measure => simp [intOf]; omega
        · have hn48 : n = 48 := by have := HT.out; omega
          have hsch : Hid (l = sched blk) := by show _ = _; rw [Hl.out, hn48]; rfl
          have hll : l.length = 64 := by rw [Hl.out, w64_len]
          clear hn48 Hl
          go_wp2_with (first | refine wpList_load_row rfl 127 _ rfl _ rfl 127 _ (0, 0) _ (by exact HW.out) Tryd.underlying127 rfl (by rw [size48, ws_size, hll]) ?_ | refine wpList_store_row rfl 127 _ _ rfl _ _ rfl rfl 127 _ (by exact HZ.out) (by rw [size48, ws_size, hll]) (by rw [ws_size, ws_size, hll]; rfl) (ws_one _) ?_)
          have hres : (wr.setRow w.heap.size (ws l)).heap[w.heap.size]? = some (.cells (ws l) 127 (0, 0)) := setRow_heap _ _ _ _ _ _ HZ.out
          refine bodyPost_ret (v := .agg (ws l)) (results_cell_row rfl _ _ w.heap.size 127 _ (0, 0) _ rfl hres Tryd.underlying127 rfl (by rw [size48, ws_size, hll])) rfl ⟨?_, ?_⟩
          · rw [hsch.out]
          · exact below_setRow hbl (Nat.le_refl _) _
end Go.Proofs.YtceclpabdfncoaaDoor.Sha

namespace Go.Proofs.YtceclpabdfncoaaDoor.Sha
open Go.RowKit
def hasLoop : Code → Bool
  | .loop _ => true
  | .seq a b => hasLoop a || hasLoop b
  | .block _ c => hasLoop c
  | .scope c => hasLoop c
  | .cond _ a b => hasLoop a || hasLoop b
  | _ => false
/-- What stands behind the block that holds the loop. -/
def afterLoop : Code → Option Code
  | .seq a b => if hasLoop a then (match a with
      | .block _ _ => some b
      | _ => (match afterLoop a with
        | some c => some (.seq c b)
        | none => some b)) else afterLoop b
  | .scope c => afterLoop c
  | _ => none
noncomputable def tail18 : Code := ((Tryd.f58.body.bind afterLoop).getD .skip)
set_option maxRecDepth 100000 in
set_option maxHeartbeats 4000000 in
theorem tail_any (g r : Nat) (hne : g ≠ r) (s0 s1 s2 s3 s4 s5 s6 s7 t0 t1 t2 t3 t4 t5 t6 t7 u0 u1 u2 u3 u4 u5 u6 u7 : Nat) (v0 v1 v3 v5 v14 v15 v16 v17 v18 v19 v20 v21 v22 v23 v24 v25 v26 v27 v28 v29 v30 v31 v32 v33 v34 v35 v36 v37 v38 v39 v40 v41 v42 v43 v44 v45 v46 v47 v48 v49 v50 v51 v52 v53 v54 v55 v56 v57 v58 v59 v60 v61 v62 v63 v64 v65 v66 v67 v68 v69 v70 v71 v72 v73 v74 v75 v76 v77 v78 v79 v80 v81 v82 v83 v84 v85 v86 v87 v88 v89 v90 v91 v92 v93 v94 v95 v96 v97 v98 v99 v100 v101 v102 v103 v104 v105 v106 v107 v108 v109 v110 v111 v112 v113 v114 v115 v116 v117 v118 v119 v120 v121 v122 v123 v124 v125 v126 v127 : Value) (w : World)
    (c0 : w.cell? ⟨g, 0, none⟩ = some (.int .u32 (s0 : Int))) (f0 : w.frozen? ⟨g, 0, none⟩ = false) (d0 : w.cell? ⟨r, 0, none⟩ = some (.int .u32 0)) (k0 : w.frozen? ⟨r, 0, none⟩ = false) (e0 : ((s0 : Int) + (t0 : Int)) % 4294967296 = (u0 : Int))
    (c1 : w.cell? ⟨g, 1, none⟩ = some (.int .u32 (s1 : Int))) (f1 : w.frozen? ⟨g, 1, none⟩ = false) (d1 : w.cell? ⟨r, 1, none⟩ = some (.int .u32 0)) (k1 : w.frozen? ⟨r, 1, none⟩ = false) (e1 : ((s1 : Int) + (t1 : Int)) % 4294967296 = (u1 : Int))
    (c2 : w.cell? ⟨g, 2, none⟩ = some (.int .u32 (s2 : Int))) (f2 : w.frozen? ⟨g, 2, none⟩ = false) (d2 : w.cell? ⟨r, 2, none⟩ = some (.int .u32 0)) (k2 : w.frozen? ⟨r, 2, none⟩ = false) (e2 : ((s2 : Int) + (t2 : Int)) % 4294967296 = (u2 : Int))
    (c3 : w.cell? ⟨g, 3, none⟩ = some (.int .u32 (s3 : Int))) (f3 : w.frozen? ⟨g, 3, none⟩ = false) (d3 : w.cell? ⟨r, 3, none⟩ = some (.int .u32 0)) (k3 : w.frozen? ⟨r, 3, none⟩ = false) (e3 : ((s3 : Int) + (t3 : Int)) % 4294967296 = (u3 : Int))
    (c4 : w.cell? ⟨g, 4, none⟩ = some (.int .u32 (s4 : Int))) (f4 : w.frozen? ⟨g, 4, none⟩ = false) (d4 : w.cell? ⟨r, 4, none⟩ = some (.int .u32 0)) (k4 : w.frozen? ⟨r, 4, none⟩ = false) (e4 : ((s4 : Int) + (t4 : Int)) % 4294967296 = (u4 : Int))
    (c5 : w.cell? ⟨g, 5, none⟩ = some (.int .u32 (s5 : Int))) (f5 : w.frozen? ⟨g, 5, none⟩ = false) (d5 : w.cell? ⟨r, 5, none⟩ = some (.int .u32 0)) (k5 : w.frozen? ⟨r, 5, none⟩ = false) (e5 : ((s5 : Int) + (t5 : Int)) % 4294967296 = (u5 : Int))
    (c6 : w.cell? ⟨g, 6, none⟩ = some (.int .u32 (s6 : Int))) (f6 : w.frozen? ⟨g, 6, none⟩ = false) (d6 : w.cell? ⟨r, 6, none⟩ = some (.int .u32 0)) (k6 : w.frozen? ⟨r, 6, none⟩ = false) (e6 : ((s6 : Int) + (t6 : Int)) % 4294967296 = (u6 : Int))
    (c7 : w.cell? ⟨g, 7, none⟩ = some (.int .u32 (s7 : Int))) (f7 : w.frozen? ⟨g, 7, none⟩ = false) (d7 : w.cell? ⟨r, 7, none⟩ = some (.int .u32 0)) (k7 : w.frozen? ⟨r, 7, none⟩ = false) (e7 : ((s7 : Int) + (t7 : Int)) % 4294967296 = (u7 : Int))
    (R : Ending → World → Prop) (hR : Hid (R (.returned (.agg #[Value.int IntKind.u32 (u0 : Int), Value.int IntKind.u32 (u1 : Int), Value.int IntKind.u32 (u2 : Int), Value.int IntKind.u32 (u3 : Int), Value.int IntKind.u32 (u4 : Int), Value.int IntKind.u32 (u5 : Int), Value.int IntKind.u32 (u6 : Int), Value.int IntKind.u32 (u7 : Int)])) ((((((((((((((((w.setCell ⟨g, 0, none⟩ (Value.int IntKind.u32 (u0 : Int))).setCell ⟨g, 1, none⟩ (Value.int IntKind.u32 (u1 : Int))).setCell ⟨g, 2, none⟩ (Value.int IntKind.u32 (u2 : Int))).setCell ⟨g, 3, none⟩ (Value.int IntKind.u32 (u3 : Int))).setCell ⟨g, 4, none⟩ (Value.int IntKind.u32 (u4 : Int))).setCell ⟨g, 5, none⟩ (Value.int IntKind.u32 (u5 : Int))).setCell ⟨g, 6, none⟩ (Value.int IntKind.u32 (u6 : Int))).setCell ⟨g, 7, none⟩ (Value.int IntKind.u32 (u7 : Int))).setCell ⟨r, 0, none⟩ (Value.int IntKind.u32 (u0 : Int))).setCell ⟨r, 1, none⟩ (Value.int IntKind.u32 (u1 : Int))).setCell ⟨r, 2, none⟩ (Value.int IntKind.u32 (u2 : Int))).setCell ⟨r, 3, none⟩ (Value.int IntKind.u32 (u3 : Int))).setCell ⟨r, 4, none⟩ (Value.int IntKind.u32 (u4 : Int))).setCell ⟨r, 5, none⟩ (Value.int IntKind.u32 (u5 : Int))).setCell ⟨r, 6, none⟩ (Value.int IntKind.u32 (u6 : Int))).setCell ⟨r, 7, none⟩ (Value.int IntKind.u32 (u7 : Int))))) :
    Code.wp Tryd.prog tail18 (bodyPost Tryd.prog Tryd.f58 R) ⟨#[v0, v1, .pointer (some ⟨g, 0, none⟩), v3, .pointer (some ⟨r, 0, none⟩), v5, .int .u32 (t0 : Int), .int .u32 (t1 : Int), .int .u32 (t2 : Int), .int .u32 (t3 : Int), .int .u32 (t4 : Int), .int .u32 (t5 : Int), .int .u32 (t6 : Int), .int .u32 (t7 : Int), v14, v15, v16, v17, v18, v19, v20, v21, v22, v23, v24, v25, v26, v27, v28, v29, v30, v31, v32, v33, v34, v35, v36, v37, v38, v39, v40, v41, v42, v43, v44, v45, v46, v47, v48, v49, v50, v51, v52, v53, v54, v55, v56, v57, v58, v59, v60, v61, v62, v63, v64, v65, v66, v67, v68, v69, v70, v71, v72, v73, v74, v75, v76, v77, v78, v79, v80, v81, v82, v83, v84, v85, v86, v87, v88, v89, v90, v91, v92, v93, v94, v95, v96, v97, v98, v99, v100, v101, v102, v103, v104, v105, v106, v107, v108, v109, v110, v111, v112, v113, v114, v115, v116, v117, v118, v119, v120, v121, v122, v123, v124, v125, v126, v127], []⟩ w := by
  have hne' : r ≠ g := fun h => hne h.symm
  conv => arg 2; whnf
  go_wp2
  exact bodyPost_ret (v := .agg #[Value.int IntKind.u32 (u0 : Int), Value.int IntKind.u32 (u1 : Int), Value.int IntKind.u32 (u2 : Int), Value.int IntKind.u32 (u3 : Int), Value.int IntKind.u32 (u4 : Int), Value.int IntKind.u32 (u5 : Int), Value.int IntKind.u32 (u6 : Int), Value.int IntKind.u32 (u7 : Int)]) (by simp [results, Tryd.results58, go_sem, d0, d1, d2, d3, d4, d5, d6, d7]) rfl hR.out
end Go.Proofs.YtceclpabdfncoaaDoor.Sha
