/- PressCrcs' walk. -/
import Derived.Test.YtnemnnocfbcaoaaDoorSteps
import Derived.Deep.DeepCutAuto
namespace Go.Proofs.YtnemnnocfbcaoaaDoor
open Go.RowKit
theorem run_cv (w : World) (Hs n c : Nat) (C : Array Value) (fr : Nat × Nat) (h : w.heap[Hs]? = some (.cells C 5 fr)) :
    ∃ w', (convert 22 22 (.slice (some ⟨Hs, 0, none⟩) n c)).run Tryd.prog w = .ok (.slice (some ⟨Hs, 0, none⟩) n c) w' ∧ (∃ fr', w'.heap[Hs]? = some (.cells C 5 fr')) ∧ (∀ j, j ≠ Hs → w'.heap[j]? = w.heap[j]?) ∧ w'.os = w.os ∧ w'.tape = w.tape ∧ w'.output = w.output ∧ w'.heap.size = w.heap.size := by
  have hsh : w.shape? Hs = some (5, C.size) := by unfold World.shape?; rw [h]
  refine ⟨w.freeze ⟨Hs, C.size, none⟩ 1, ?_, ?_, ?_, rfl, rfl, rfl, ?_⟩
  · simp [convert, run_underlying Tryd.underlying22, run_underlying Tryd.underlying5, markStringish, hsh]
  · obtain ⟨lo, hi⟩ := fr
    refine ⟨if lo == hi then (C.size, C.size + 1) else (min lo C.size, max hi (C.size + 1)), ?_⟩
    unfold World.freeze
    rw [if_neg (by decide)]
    simp [Array.getElem?_modify, h]
  · intro j hj
    unfold World.freeze
    rw [if_neg (by decide)]
    simp [Array.getElem?_modify, Ne.symm hj]
  · unfold World.freeze
    rw [if_neg (by decide)]
    simp
/-- Byte by byte. -/
def x3 (a b c : List Nat) : List Nat := List.zipWith (· ^^^ ·) (List.zipWith (· ^^^ ·) a b) c
theorem x3_len {a b c : List Nat} {n : Nat} (ha : a.length = n) (hb : b.length = n) (hc : c.length = n) : (x3 a b c).length = n := by
  unfold x3; rw [List.length_zipWith, List.length_zipWith]; omega
theorem x3_get {a b c : List Nat} {n : Nat} (ha : a.length = n) (hb : b.length = n) (hc : c.length = n) (k : Nat) (hk : k < n) : (x3 a b c).getD k 0 = a.getD k 0 ^^^ b.getD k 0 ^^^ c.getD k 0 := by
  have h1 : k < (x3 a b c).length := by rw [x3_len ha hb hc]; exact hk
  simp only [List.getD, List.getElem?_eq_getElem h1, List.getElem?_eq_getElem (show k < a.length by omega), List.getElem?_eq_getElem (show k < b.length by omega), List.getElem?_eq_getElem (show k < c.length by omega), Option.getD_some]
  simp [x3]
theorem x3_byt {a b c : List Nat} (ha : Byt a) (hb : Byt b) (hc : Byt c) : Byt (x3 a b c) := byt_xor (byt_xor ha hb) hc
theorem getD_take {l : List Nat} {k n : Nat} (h : k < n) : (l.take n).getD k 0 = l.getD k 0 := by simp [List.getD, h]
/-- What lies there behind k rounds. -/
def part3 (l : List Nat) (n k : Nat) : List Nat := (List.range n).map fun j => if j < k then l.getD j 0 else 0
theorem part3_len (l : List Nat) (n k : Nat) : (part3 l n k).length = n := by simp [part3]
theorem part3_zero (l : List Nat) (n : Nat) : part3 l n 0 = List.replicate n 0 := by
  apply List.ext_getElem
  · simp [part3]
  · intro j h1 h2; simp [part3]
theorem part3_all {l : List Nat} {n : Nat} (hl : l.length = n) : part3 l n n = l := by
  apply List.ext_getElem
  · rw [part3_len, hl]
  · intro j h1 h2
    simp only [part3, List.getElem_map, List.getElem_range]
    rw [if_pos (by omega)]
    simp [List.getD, h2]
theorem part3_set (l : List Nat) (n k : Nat) : (part3 l n k).set k (l.getD k 0) = part3 l n (k + 1) := by
  apply List.ext_getElem
  · rw [List.length_set, part3_len, part3_len]
  · intro j h1 h2
    rw [List.getElem_set]
    simp only [part3, List.getElem_map, List.getElem_range]
    split
    · rename_i he
      subst he
      rw [if_pos (by omega)]
    · by_cases hj : j < k
      · rw [if_pos hj, if_pos (by omega)]
      · rw [if_neg hj, if_neg (by omega)]
theorem byl_cut_h {w : World} {o : Option Addr} {b : List Nat} {c : Nat} (hb : Byl (.slice o b.length c) b w) (h : Nat) (hh : h ≤ b.length) : Byl (sliced o 0 h c 1) (b.take h) w := by
  have hl : (b.take h).length = h := by rw [List.length_take]; omega
  rcases hb with ⟨h1, rfl⟩ | ⟨bk, off, cap, h1, h2, h3, h4, h5⟩
  · simp only [Value.slice.injEq] at h1
    obtain ⟨rfl, _, rfl⟩ := h1
    have : h = 0 := by simpa using hh
    subst this
    exact .inl ⟨rfl, rfl⟩
  · simp only [Value.slice.injEq, true_and] at h1
    obtain ⟨rfl, rfl⟩ := h1
    refine .inr ⟨bk, off, c, ?_, by omega, h3, h4, fun j hj => ?_⟩
    · rw [hl]
      simp [sliced, Addr.add]
    · rw [hl] at hj
      rw [h5 j (by omega)]
      simp [List.getD, hj, show j < b.length by omega]
/-- A list cut to its first n, as the law cuts it. -/
theorem cut_n (l : List Nat) (o : Option Addr) (cp n : Nat) (hc : l.length ≤ cp) (hn : n ≤ l.length) : ∃ X, (∀ W : World, (Instr.sliceAt 22 (.slice o l.length cp) none (some (.int .i64 (n : Int))) none).run Tryd.prog W = .ok X W) ∧ ∀ W : World, Byl (.slice o l.length cp) l W → Byl X (l.take n) W :=
  ⟨sliced o 0 n cp 1, fun W => by rw [run_sliceAt_slice (P := Tryd.prog) W 22 _ _ _ _ (by kernel_rfl)]; exact run_cut_h W o l.length cp n (by omega), fun W h => byl_cut_h h n hn⟩
def nine : List Nat := [49, 50, 51, 52, 53, 54, 55, 56, 57]
/-- Nothing but one block is touched, none is made. -/
structure Tch2 (g : Nat) (w w' : World) : Prop where
  os : w'.os = w.os
  tape : w'.tape = w.tape
  output : w'.output = w.output
  size : w'.heap.size = w.heap.size
  block : ∀ j, j ≠ g → w'.heap[j]? = w.heap[j]?
theorem Tch2.refl (g : Nat) (w : World) : Tch2 g w w := ⟨rfl, rfl, rfl, rfl, fun _ _ => rfl⟩
theorem Tch2.setCell {g i : Nat} {a w : World} (h : Tch2 g a w) (v : Value) : Tch2 g a (w.setCell ⟨g, i, none⟩ v) :=
  ⟨h.os, h.tape, h.output, by simpa [World.setCell] using h.size, fun j hn => (heap_setCell_other _ _ _ _ hn).trans (h.block j hn)⟩
/-- What holds in the first drawn region: the known bytes are not laid yet, or they are. -/
structure Sg (wr : World) (b : Bool) (W : World) : Prop where
  os : W.os = wr.os
  tape : W.tape = wr.tape
  output : W.output = wr.output
  sz0 : b = false → W.heap.size = wr.heap.size
  sz1 : wr.heap.size ≤ W.heap.size
  blk : ∀ j, j < wr.heap.size → W.heap[j]? = wr.heap[j]?
  row : b = true → ∃ fr, W.heap[wr.heap.size]? = some (.cells (bs nine) 5 fr)
theorem Sg.below {wr W : World} {b : Bool} (h : Sg wr b W) : Below wr.heap.size wr W := ⟨h.os, h.tape, h.output, h.sz1, h.blk⟩
theorem crc_lt (l : List Nat) (hb : Byt l) : crcN l < 4294967296 := Nat.xor_lt_two_pow (n := 32) (by decide) (reg_lt l hb _)
theorem sg_call {wr : World} (ht : Tc wr) (l : List Nat) (hb : Byt l) (hl : l.length ≤ 281474976710656) (v : Value) (hv : Byl v l wr) (k : Nat) (hk : k = crcN l) : ∀ b w, Sg wr b w → Calls Tryd.prog 4 #[v] w fun e w' => e = .returned (.int .u32 (k : Int)) ∧ Sg wr b w' := fun b w h => by
  subst hk
  exact (crc_any l hb hl v w (hv.below h.below) (ht.below h.below ht.sz)).mono fun e w' ⟨h1, h2⟩ => ⟨h1, by rw [h2]; exact h⟩
theorem sg_known {wr : World} (ht : Tc wr) : ∀ w, Sg wr true w → Calls Tryd.prog 4 #[.slice (some ⟨wr.heap.size, 0, none⟩) 9 9] w fun e w' => e = .returned (.int .u32 3421780262) ∧ Sg wr true w' := fun w h => by
  obtain ⟨fr, hr⟩ := h.row rfl
  have hy : Byl (.slice (some ⟨wr.heap.size, 0, none⟩) 9 9) nine w := byl_row (l := nine) hr (by decide)
  have := crc_any nine (by unfold nine; intro x hx; simp at hx; omega) (by decide) _ w hy (ht.below h.below ht.sz)
  rw [show crcN nine = 3421780262 from crc_known] at this
  exact this.mono fun e w' ⟨h1, h2⟩ => ⟨h1, by rw [h2]; exact h⟩
theorem sg_conv {wr : World} : ∀ w, Sg wr true w → ∃ w', (convert 22 22 (.slice (some ⟨wr.heap.size, 0, none⟩) 9 9)).run Tryd.prog w = .ok (.slice (some ⟨wr.heap.size, 0, none⟩) 9 9) w' ∧ Sg wr true w' := fun w h => by
  obtain ⟨fr, hr⟩ := h.row rfl
  obtain ⟨w', h1, h2, h3, h4, h5, h6, h7⟩ := run_cv w wr.heap.size 9 9 _ fr hr
  exact ⟨w', h1, h4.trans h.os, h5.trans h.tape, h6.trans h.output, (fun q => by cases q), by rw [h7]; exact h.sz1, fun j hj => (h3 j (by omega)).trans (h.blk j hj), fun _ => h2⟩
theorem sg_build {wr : World} : ∀ w, Sg wr false w → w.heap.size = wr.heap.size ∧ Sg wr true (w.alloc (.cells #[.int .u8 49, .int .u8 50, .int .u8 51, .int .u8 52, .int .u8 53, .int .u8 54, .int .u8 55, .int .u8 56, .int .u8 57] 5)) := fun w h => by
  have hz := h.sz0 rfl
  refine ⟨hz, h.os, h.tape, h.output, (fun q => by cases q), by simp; omega, fun j hj => (heap_alloc_old _ _ (h := by omega)).trans (h.blk j hj), fun _ => ⟨(0, 0), ?_⟩⟩
  rw [← hz]
  exact heap_alloc_new w _
theorem u32_and1 (a : Nat) (h : a < 4294967296) : bits BinOp.and IntKind.u32 (a : Int) 1 = ((a % 2 : Nat) : Int) := by
  rw [show (1 : Int) = ((1 : Nat) : Int) from rfl, u32_and_nat a 1 h (by decide), Nat.and_two_pow_sub_one_eq_mod a 1]
attribute [local go_sem ↓] toMk
set_option maxRecDepth 100000 in
set_option maxHeartbeats 12800000 in
theorem crcs_any (a b c : List Nat) (hab : Byt a) (hbb : Byt b) (hcb : Byt c) (hal : a.length ≤ 140737488351232) (hbl : b.length ≤ 140737488351232) (hcl : c.length ≤ 140737488351232) (t : Int) (m : Nat) (hm : m < 4294967296) (va vb vc : Value) (w : World) (ht : Tc w) (ya : Byl va a w) (yb : Byl vb b w) (yc : Byl vc c w) :
    Calls Tryd.prog 3 #[va, vb, vc, .int .i64 t, .int .u32 (m : Int)] w fun e w' => e = .returned (.bool true) ∧ Below w.heap.size w w' := by
  have YA : Hid (Byl va a w) := ya
  have YB : Hid (Byl vb b w) := yb
  have YC : Hid (Byl vc c w) := yc
  obtain ⟨oa, ca, rfl, qa1, qa2, fa⟩ := ya.form
  obtain ⟨ob, cb, rfl, qb1, qb2, fb⟩ := yb.form
  obtain ⟨oc, cc, rfl, qc1, qc2, fc⟩ := yc.form
  obtain ⟨n, hn⟩ : ∃ n, n = min (min a.length b.length) c.length := ⟨_, rfl⟩
  have HN : Hid (n = min (min a.length b.length) c.length) := hn
  have hna : n ≤ a.length := by omega
  have hnb : n ≤ b.length := by omega
  have hnc : n ≤ c.length := by omega
  obtain ⟨p, hp⟩ : ∃ p, p = min a.length b.length := ⟨_, rfl⟩
  have HP : Hid (p = min a.length b.length) := hp
  have HPN : Hid (n = min p c.length) := by show _ = _; rw [hn, hp]
  clear hn hp ya yb yc
  go_enter Tryd.func3, Tryd.ntmps3
  go_upto_if 21 with fail
  go_cut [11] (fun s wc => s = .int .i64 (p : Int) ∧ wc = w)
  case first =>
    by_cases h : b.length < a.length
    · have h' : (b.length : Int) < (a.length : Int) := by omega
      have hpe : p = b.length := by have := HP.out; omega
      subst hpe
      go_wp2_with fail
      go_meet
      exact ⟨rfl, rfl⟩
    · have h' : ¬ ((b.length : Int) < (a.length : Int)) := by omega
      have hpe : p = a.length := by have := HP.out; omega
      subst hpe
      go_wp2_with fail
      go_meet
      exact ⟨rfl, rfl⟩
  case rest =>
    obtain ⟨rfl, hcw⟩ := hcut
    have hcw2 := hcw.symm
    clear hcw
    subst hcw2
    go_upto_if 27 with fail
    go_cut [11] (fun s wq => s = .int .i64 (n : Int) ∧ wq = w)
    case first =>
      by_cases h : c.length < p
      · have h' : (c.length : Int) < (p : Int) := by omega
        have hpe : n = c.length := by have := HPN.out; omega
        subst hpe
        go_wp2_with fail
        go_meet
        exact ⟨rfl, rfl⟩
      · have h' : ¬ ((c.length : Int) < (p : Int)) := by omega
        have hpe : n = p := by have := HPN.out; omega
        subst hpe
        go_wp2_with fail
        go_meet
        exact ⟨rfl, rfl⟩
    case rest =>
      obtain ⟨rfl, hcw⟩ := hcut
      have hcw2 := hcw.symm
      clear hcw
      subst hcw2
      obtain ⟨w0, hmk, hrow0, belm⟩ := run_mkN w n (by omega)
      obtain ⟨A, hA⟩ : ∃ l, l = a.take n := ⟨_, rfl⟩
      obtain ⟨B, hB⟩ : ∃ l, l = b.take n := ⟨_, rfl⟩
      obtain ⟨C, hC⟩ : ∃ l, l = c.take n := ⟨_, rfl⟩
      have lA : A.length = n := by rw [hA, List.length_take]; omega
      have lB : B.length = n := by rw [hB, List.length_take]; omega
      have lC : C.length = n := by rw [hC, List.length_take]; omega
      have bA : Byt A := fun x hx => hab x (by rw [hA] at hx; exact List.mem_of_mem_take hx)
      have bB : Byt B := fun x hx => hbb x (by rw [hB] at hx; exact List.mem_of_mem_take hx)
      have bC : Byt C := fun x hx => hcb x (by rw [hC] at hx; exact List.mem_of_mem_take hx)
      obtain ⟨D, hD⟩ : ∃ l, l = x3 A B C := ⟨_, rfl⟩
      have lD : D.length = n := by rw [hD]; exact x3_len lA lB lC
      have bD : Byt D := by rw [hD]; exact x3_byt bA bB bC
      have HG : Hid (∀ k, k < n → D.getD k 0 = a.getD k 0 ^^^ b.getD k 0 ^^^ c.getD k 0) := fun k hk => by
        rw [hD, x3_get lA lB lC k hk, hA, hB, hC, getD_take hk, getD_take hk, getD_take hk]
      have HC3 : Hid (crcN D = crcN A ^^^ crcN B ^^^ crcN C) := by
        show _ = _
        rw [hD]
        exact crc_three A B C (by omega) (by omega) bA bB bC
      have R0 : Hid (w0.heap[w.heap.size]? = some (.cells (bs (part3 D n 0)) 5 (0, 0))) := by rw [part3_zero]; exact hrow0
      have BM : Hid (Below w.heap.size w w0) := belm
      have hnW : IntKind.i64.wrap (n : Int) = (n : Int) := by rw [IntKind.wrap_i64]; omega
      have HABC : Hid (A = a.take n ∧ B = b.take n ∧ C = c.take n) := ⟨hA, hB, hC⟩
      have FA : Hid (0 < a.length → ∃ b off, oa = some ⟨b, off, none⟩ ∧ b < w.heap.size ∧ ∀ j, j < a.length → w.cell? ⟨b, off + j, none⟩ = some (.int .u8 ((a.getD j 0 : Nat) : Int))) := fa
      have FB : Hid (0 < b.length → ∃ b1 off, ob = some ⟨b1, off, none⟩ ∧ b1 < w.heap.size ∧ ∀ j, j < b.length → w.cell? ⟨b1, off + j, none⟩ = some (.int .u8 ((b.getD j 0 : Nat) : Int))) := fb
      have FC : Hid (0 < c.length → ∃ b1 off, oc = some ⟨b1, off, none⟩ ∧ b1 < w.heap.size ∧ ∀ j, j < c.length → w.cell? ⟨b1, off + j, none⟩ = some (.int .u8 ((c.getD j 0 : Nat) : Int))) := fc
      clear hrow0 belm hA hB hC hD fa fb fc
      go_wp2_with fail
      clear hmk
      go_loopw [13] (fun i wr => ∃ k : Nat, i = .int .i64 (k : Int) ∧ k ≤ n ∧ Hid (wr.heap[w.heap.size]? = some (.cells (bs (part3 D n k)) 5 (0, 0))) ∧ Hid (Below w.heap.size w wr)) (fun i _ => n - (intOf i).toNat)
      case atStart => exact ⟨0, rfl, by omega, R0, BM⟩
      case round =>
        clear R0 BM
        obtain ⟨k, rfl, hk, HR, HB⟩ := hrel
        by_cases hlt : k < n
        · have hk0 : (0 : Int) ≤ (k : Int) := by omega
          have hk1 : (k : Int) < (n : Int) := by omega
          have hka : (k : Int) < (a.length : Int) := by omega
          have hkb : (k : Int) < (b.length : Int) := by omega
          have hkc : (k : Int) < (c.length : Int) := by omega
          obtain ⟨b1, o1, rfl, g1, c1⟩ := FA.out (by omega)
          obtain ⟨b2, o2, rfl, g2, c2⟩ := FB.out (by omega)
          obtain ⟨b3, o3, rfl, g3, c3⟩ := FC.out (by omega)
          obtain ⟨x, hx⟩ : ∃ x, x = a.getD k 0 := ⟨_, rfl⟩
          obtain ⟨y, hy⟩ : ∃ x, x = b.getD k 0 := ⟨_, rfl⟩
          obtain ⟨z, hz⟩ : ∃ x, x = c.getD k 0 := ⟨_, rfl⟩
          have hx256 : x < 256 := by rw [hx]; exact getT hab _
          have hy256 : y < 256 := by rw [hy]; exact getT hbb _
          have hz256 : z < 256 := by rw [hz]; exact getT hcb _
          have cx : wr.cell? ⟨b1, o1 + k, none⟩ = some (.int .u8 (x : Int)) := by rw [hx]; exact (World.cell?_of_block (w := w) (HB.out.block b1 g1)).trans (c1 k (by omega))
          have cy : wr.cell? ⟨b2, o2 + k, none⟩ = some (.int .u8 (y : Int)) := by rw [hy]; exact (World.cell?_of_block (w := w) (HB.out.block b2 g2)).trans (c2 k (by omega))
          have cz : wr.cell? ⟨b3, o3 + k, none⟩ = some (.int .u8 (z : Int)) := by rw [hz]; exact (World.cell?_of_block (w := w) (HB.out.block b3 g3)).trans (c3 k (by omega))
          obtain ⟨s, hs⟩ : ∃ s, s = x ^^^ y := ⟨_, rfl⟩
          obtain ⟨u, hu⟩ : ∃ u, u = s ^^^ z := ⟨_, rfl⟩
          have hs256 : s < 256 := by rw [hs]; exact Nat.xor_lt_two_pow (n := 8) hx256 hy256
          have xs1 : bits BinOp.xor IntKind.u8 (x : Int) (y : Int) = (s : Int) := by rw [hs]; exact u8_xor_nat x y hx256 hy256
          have xs2 : bits BinOp.xor IntKind.u8 (s : Int) (z : Int) = (u : Int) := by rw [hu]; exact u8_xor_nat s z hs256 hz256
          have HU : Hid (u = D.getD k 0) := by show _ = _; rw [HG.out k hlt, ← hx, ← hy, ← hz, ← hs, ← hu]
          have fz : wr.frozen? ⟨w.heap.size, k, none⟩ = false := frozen_of_row wr _ k _ _ HR.out
          have cO : wr.cell? ⟨w.heap.size, k, none⟩ = some (.int .u8 (((part3 D n k).getD k 0 : Nat) : Int)) := by rw [cell_of_row wr _ _ _ _ _ HR.out, bs_get _ _ (by rw [part3_len]; exact hlt)]
          have HR1 : Hid ((wr.setCell ⟨w.heap.size, k, none⟩ (.int .u8 (u : Int))).heap[w.heap.size]? = some (.cells (bs (part3 D n (k + 1))) 5 (0, 0))) := by
            refine (heap_setCell_same _ _ _ _ _ _ HR.out).trans ?_
            rw [bs_set, HU.out, part3_set]
          have HB1 : Hid (Below w.heap.size w (wr.setCell ⟨w.heap.size, k, none⟩ (.int .u8 (u : Int)))) := HB.out.setCell (Nat.le_refl _) _
          clear hx hy hz hs hu c1 c2 c3 HR HB HU
          as_aux_lemma =>
          go_wp2_with fail
          go_region
          go_wp2
          exact ⟨⟨k + 1, rfl, by omega, HR1, HB1.out.drew⟩, by simp only [intOf]; omega⟩
        · have hk1 : ¬ ((k : Int) < (n : Int)) := by omega
          have hke : n = k := by omega
          subst hke
          have HR2 : Hid (wr.heap[w.heap.size]? = some (.cells (bs D) 5 (0, 0))) := by rw [← part3_all lD]; exact HR
          clear HR HG FA FB FC
          have hOs : w.heap.size < wr.heap.size := (Array.getElem?_eq_some_iff.1 HR2.out).1
          obtain ⟨XA, hXA, zXA⟩ := cut_n a oa ca n qa1 hna
          have yXA := zXA wr (YA.out.below HB.out)
          obtain ⟨XB, hXB, zXB⟩ := cut_n b ob cb n qb1 hnb
          have yXB := zXB wr (YB.out.below HB.out)
          obtain ⟨XC, hXC, zXC⟩ := cut_n c oc cc n qc1 hnc
          have yXC := zXC wr (YC.out.below HB.out)
          rw [← HABC.out.1] at yXA zXA
          rw [← HABC.out.2.1] at yXB zXB
          rw [← HABC.out.2.2] at yXC zXC
          have HYF : Hid ((∀ W : World, Byl (.slice oa a.length ca) a W → Byl XA A W) ∧ (∀ W : World, Byl (.slice ob b.length cb) b W → Byl XB B W) ∧ (∀ W : World, Byl (.slice oc c.length cc) c W → Byl XC C W)) := ⟨zXA, zXB, zXC⟩
          clear zXA zXB zXC
          have yD : Byl (.slice (some ⟨w.heap.size, 0, none⟩) n n) D wr := by
            have := byl_row HR2.out (by rw [lD]; unfold maxLen; omega)
            rw [lD] at this
            exact this
          obtain ⟨kA, hkA⟩ : ∃ k, k = crcN A := ⟨_, rfl⟩
          obtain ⟨kB, hkB⟩ : ∃ k, k = crcN B := ⟨_, rfl⟩
          obtain ⟨kC, hkC⟩ : ∃ k, k = crcN C := ⟨_, rfl⟩
          obtain ⟨kD, hkD⟩ : ∃ k, k = crcN D := ⟨_, rfl⟩
          obtain ⟨kAB, hkAB⟩ : ∃ k, k = kA ^^^ kB := ⟨_, rfl⟩
          have lkA : kA < 4294967296 := by rw [hkA]; exact crc_lt A bA
          have lkB : kB < 4294967296 := by rw [hkB]; exact crc_lt B bB
          have lkC : kC < 4294967296 := by rw [hkC]; exact crc_lt C bC
          have lkAB : kAB < 4294967296 := by rw [hkAB]; exact Nat.xor_lt_two_pow (n := 32) lkA lkB
          have hx1 : bits BinOp.xor IntKind.u32 (kA : Int) (kB : Int) = (kAB : Int) := by rw [hkAB]; exact u32_xor_nat kA kB lkA lkB
          have hx2 : bits BinOp.xor IntKind.u32 (kAB : Int) (kC : Int) = (kD : Int) := by rw [u32_xor_nat kAB kC lkAB lkC, hkAB, hkA, hkB, hkC, hkD, HC3.out]
          have tcr : Tc wr := ht.below HB.out ht.sz
          have SA : Hid (∀ b w, Sg wr.drew b w → Calls Tryd.prog 4 #[XA] w fun e w' => e = .returned (.int .u32 (kA : Int)) ∧ Sg wr.drew b w') := sg_call (wr := wr.drew) (tcr.below (Below.refl wr.heap.size wr).drew tcr.sz) A bA (by omega) XA (yXA.below (Below.refl wr.heap.size wr).drew) kA hkA
          have SB : Hid (∀ b w, Sg wr.drew b w → Calls Tryd.prog 4 #[XB] w fun e w' => e = .returned (.int .u32 (kB : Int)) ∧ Sg wr.drew b w') := sg_call (wr := wr.drew) (tcr.below (Below.refl wr.heap.size wr).drew tcr.sz) B bB (by omega) XB (yXB.below (Below.refl wr.heap.size wr).drew) kB hkB
          have SC : Hid (∀ b w, Sg wr.drew b w → Calls Tryd.prog 4 #[XC] w fun e w' => e = .returned (.int .u32 (kC : Int)) ∧ Sg wr.drew b w') := sg_call (wr := wr.drew) (tcr.below (Below.refl wr.heap.size wr).drew tcr.sz) C bC (by omega) XC (yXC.below (Below.refl wr.heap.size wr).drew) kC hkC
          have SD : Hid (∀ b W, Sg wr.drew b W → Calls Tryd.prog 4 #[.slice (some ⟨w.heap.size, 0, none⟩) n n] W fun e w' => e = .returned (.int .u32 (kD : Int)) ∧ Sg wr.drew b w') := sg_call (wr := wr.drew) (tcr.below (Below.refl wr.heap.size wr).drew tcr.sz) D bD (by omega) _ (yD.below (Below.refl wr.heap.size wr).drew) kD hkD
          have SK : Hid (∀ W, Sg wr.drew true W → Calls Tryd.prog 4 #[.slice (some ⟨wr.heap.size, 0, none⟩) 9 9] W fun e w' => e = .returned (.int .u32 3421780262) ∧ Sg wr.drew true w') := sg_known (wr := wr.drew) (tcr.below (Below.refl wr.heap.size wr).drew tcr.sz)
          have SV : Hid (∀ W, Sg wr.drew true W → ∃ w', (convert 22 22 (.slice (some ⟨wr.heap.size, 0, none⟩) 9 9)).run Tryd.prog W = .ok (.slice (some ⟨wr.heap.size, 0, none⟩) 9 9) w' ∧ Sg wr.drew true w') := sg_conv (wr := wr.drew)
          have SL : Hid (∀ W, Sg wr.drew false W → W.heap.size = wr.heap.size ∧ Sg wr.drew true (W.alloc (.cells #[.int .u8 49, .int .u8 50, .int .u8 51, .int .u8 52, .int .u8 53, .int .u8 54, .int .u8 55, .int .u8 56, .int .u8 57] 5))) := sg_build (wr := wr.drew)
          have S0 : Hid (Sg wr.drew false wr.drew) := ⟨rfl, rfl, rfl, fun _ => rfl, Nat.le_refl _, fun _ _ => rfl, fun h => by cases h⟩
          have HKD : Hid (kD = crcN D) := hkD
          have HYX : Hid (Byl XA A wr ∧ Byl XB B wr ∧ Byl XC C wr) := ⟨yXA, yXB, yXC⟩
          have HKK : Hid (kA = crcN A ∧ kB = crcN B ∧ kC = crcN C) := ⟨hkA, hkB, hkC⟩
          have TCR : Hid (Tc wr) := tcr
          clear hkA hkB hkC hkD hkAB yXA yXB yXC yD tcr lkA lkB lkC lkAB HC3
          as_aux_lemma =>
          go_wp2_with fail
          rename_i Q1 K1 hK
          refine wp_region_vals (ops := reg11) (m := 18) (c := 19) (V := V11 w.heap.size n (.slice oa a.length ca) (.slice ob b.length cb) (.slice oc c.length cc) XA XB XC kD kA kB kC kAB wr.heap.size) (S := Sg wr.drew) (by rw [reg11_size]; omega) (by rw [reg11_size]; omega) (fun o ho listed hd => (by have := dep_of ho hd 18 (by kernel_rfl); unfold Array.getD at this ⊢; split at this <;> simp_all)) (by kernel_rfl) (fun i o ho => (okR_at okR11 ho).1) (fun i j o oj d ho hj q1 q2 => (okR_at okR11 ho).2.2 j oj d hj q1 q2) (fun i o d ho q => (okR_at okR11 ho).2.1 d q)
            (step11 _ w.heap.size n (.slice oa a.length ca) (.slice ob b.length cb) (.slice oc c.length cc) XA XB XC kD kA kB kC kAB wr.heap.size _ _ rfl rfl rfl rfl rfl hXA hXB hXC SA.out SB.out SC.out hx1 hx2 SD.out SK.out SV.out SL.out) S0.out (fun w' hS => ?_)
          have HS' : Hid (Sg wr.drew true w') := hS
          clear SA SB SC SD SK SV SL S0 hS
          show K1 _ w'
          rw [put11]
          refine hK _ _ ?_
          as_aux_lemma =>
          have bw : Below wr.heap.size wr w' := (Below.refl wr.heap.size wr).drew.trans HS'.out.below
          have hB' : Below w.heap.size w w' := HB.out.trans (bw.mono (Nat.le_of_lt hOs))
          have R5 : Hid (w'.heap[w.heap.size]? = some (.cells (bs D) 5 (0, 0))) := (HS'.out.blk _ hOs).trans HR2.out
          have hwr' : wr.heap.size ≤ w'.heap.size := HS'.out.sz1
          have YX5 : Hid (Byl XA A w' ∧ Byl XB B w' ∧ Byl XC C w') := ⟨HYX.out.1.below bw, HYX.out.2.1.below bw, HYX.out.2.2.below bw⟩
          have B5 : Hid (Below w.heap.size w w') := hB'
          have TC5 : Hid (Tc w') := TCR.out.below bw TCR.out.sz
          clear HS' HR2 HYX hB' bw
          by_cases hm0 : m = 0
          · have hm0' : (m : Int) = 0 := by omega
            subst hm0
            go_wp2
            go_ret
            exact ⟨rfl, B5.out⟩
          have hm0' : ((m : Int) == 0) = false := by rw [beq_eq_false_iff_ne]; omega
          have h8W : IntKind.i64.wrap (8 * (n : Int)) = 8 * (n : Int) := by rw [IntKind.wrap_i64]; omega
          by_cases h32 : 8 * n < 32
          · have h32' : 8 * (n : Int) < 32 := by omega
            go_wp2
            go_ret
            exact ⟨rfl, B5.out⟩
          have h32' : ¬ (8 * (n : Int) < 32) := by omega
          obtain ⟨M, hM⟩ : ∃ M, M = 8 * n - 31 := ⟨_, rfl⟩
          have hMI : 8 * (n : Int) - 31 = (M : Int) := by omega
          have hMW : IntKind.i64.wrap (M : Int) = (M : Int) := by rw [IntKind.wrap_i64]; omega
          have hM0 : ¬ ((M : Int) = 0) := by omega
          obtain ⟨ρ, hρ⟩ : ∃ ρ, Int.tmod t (M : Int) = ρ := ⟨_, rfl⟩
          have hρ1 : ρ < (M : Int) := by rw [← hρ]; exact Int.tmod_lt_of_pos t (by omega)
          have hρ2 : -(M : Int) < ρ := by
            have := Int.tmod_lt_of_pos (-t) (show (0 : Int) < (M : Int) by omega)
            rw [Int.neg_tmod, hρ] at this
            omega
          have hρW : IntKind.i64.wrap ρ = ρ := by rw [IntKind.wrap_i64]; omega
          obtain ⟨τ, hτ⟩ : ∃ τ : Nat, (τ : Int) = if ρ < 0 then ρ + (M : Int) else ρ := by
            split
            · exact ⟨(ρ + (M : Int)).toNat, by omega⟩
            · exact ⟨ρ.toNat, by omega⟩
          have hτ1 : τ + 32 ≤ 8 * n := by split at hτ <;> omega
          have HTA : Hid ((τ : Int) = if ρ < 0 then ρ + (M : Int) else ρ) := hτ
          have HMM : Hid (M = 8 * n - 31) := hM
          clear hτ hM
          as_aux_lemma =>
          go_upto_if 90 with fail
          go_cut [3] (fun s wq => s = .int .i64 (τ : Int) ∧ wq = w')
          case first =>
            by_cases hneg : ρ < 0
            · have hw1 : IntKind.i64.wrap (ρ + 8 * (n : Int)) = ρ + 8 * (n : Int) := by rw [IntKind.wrap_i64]; omega
              have hw2 : IntKind.i64.wrap (ρ + 8 * (n : Int) - 31) = (τ : Int) := by
                have h1 := HTA.out
                have h2 := HMM.out
                rw [if_pos hneg] at h1
                rw [IntKind.wrap_i64]
                omega
              have hw3 : ρ + 8 * (n : Int) - 31 = (τ : Int) := by
                have h1 := HTA.out
                have h2 := HMM.out
                rw [if_pos hneg] at h1
                omega
              go_wp2_with fail
              go_meet
              exact ⟨rfl, rfl⟩
            · have h1 := HTA.out
              rw [if_neg hneg] at h1
              have hneg' : ¬ ((τ : Int) < 0) := by omega
              rw [← h1]
              clear h1
              go_wp2_with fail
              go_meet
              exact ⟨rfl, rfl⟩
          case rest =>
            obtain ⟨rfl, hcw⟩ := hcut
            have hcw2 := hcw.symm
            clear hcw
            subst hcw2
            have hgo : w.heap.size < w'.heap.size := Nat.lt_of_lt_of_le hOs hwr'
            have E0 : Hid (D.length = n ∧ Byt D ∧ num D = num D ^^^ (2 ^ τ * (m % 2 ^ 0))) := ⟨lD, bD, by rw [Nat.pow_zero, Nat.mod_one, Nat.mul_zero, Nat.xor_zero]⟩
            have TY : Hid (∀ W, Below wr.heap.size wr W → True) := fun _ _ => trivial
            go_wp2_with fail
            go_loopw [14] (fun i wq => ∃ (k : Nat) (E : List Nat), i = .int .i64 (k : Int) ∧ k ≤ 32 ∧ Hid (E.length = n ∧ Byt E ∧ num E = num D ^^^ (2 ^ τ * (m % 2 ^ k))) ∧ Hid (wq.heap[w.heap.size]? = some (.cells (bs E) 5 (0, 0))) ∧ Hid (Tch2 w.heap.size w' wq)) (fun i _ => 32 - (intOf i).toNat)
            case atStart => exact ⟨0, D, rfl, by omega, E0, R5, Tch2.refl _ w'⟩
            case round =>
              clear E0 R5
              rename_i wx
              obtain ⟨k, E, rfl, hk, HE, HR, HW⟩ := hrel
              by_cases hlt : k < 32
              · have hk0 : (0 : Int) ≤ (k : Int) := by omega
                have hk1 : (k : Int) < 32 := by omega
                have hkW : IntKind.i64.wrap ((τ : Int) + (k : Int)) = (τ : Int) + (k : Int) := by rw [IntKind.wrap_i64]; omega
                have hkU : IntKind.u64.wrap (k : Int) = (k : Int) := by rw [IntKind.wrap_u64]; omega
                have hkU2 : (k : Int) % 18446744073709551616 = (k : Int) := by omega
                obtain ⟨g, hg⟩ : ∃ g, g = m / 2 ^ k := ⟨_, rfl⟩
                have hgI : (m : Int) / 2 ^ k = (g : Int) := by rw [hg]; simp
                have hg32 : g < 4294967296 := by rw [hg]; exact Nat.lt_of_le_of_lt (Nat.div_le_self _ _) hm
                have hand := u32_and1 g hg32
                have HST : Hid (2 ^ τ * (m % 2 ^ (k + 1)) = (2 ^ τ * (m % 2 ^ k)) ^^^ (g % 2 * 2 ^ (τ + k))) := by rw [hg]; exact burst_step m τ k
                clear hg
                by_cases hb1 : g % 2 = 1
                · rw [hb1] at hand HST
                  obtain ⟨q, hq⟩ : ∃ q, q = (τ + k) / 8 := ⟨_, rfl⟩
                  obtain ⟨r, hr⟩ : ∃ r, r = (τ + k) % 8 := ⟨_, rfl⟩
                  have hqn : q < n := by omega
                  have hq0 : (0 : Int) ≤ (q : Int) := by omega
                  have hq1 : (q : Int) < (n : Int) := by omega
                  have hqI : ((τ : Int) + (k : Int)) / 8 = (q : Int) := by omega
                  have hqT : Int.tdiv ((τ : Int) + (k : Int)) 8 = (q : Int) := by rw [Int.tdiv_eq_ediv_of_nonneg (by omega)]; exact hqI
                  have hqW : IntKind.i64.wrap (q : Int) = (q : Int) := by rw [IntKind.wrap_i64]; omega
                  have hrI : ((τ : Int) + (k : Int)) % 8 = (r : Int) := by omega
                  have hrT : Int.tmod ((τ : Int) + (k : Int)) 8 = (r : Int) := by rw [Int.tmod_eq_emod_of_nonneg (by omega)]; exact hrI
                  have hr8 : r < 8 := by omega
                  have hrU : IntKind.u64.wrap (r : Int) = (r : Int) := by rw [IntKind.wrap_u64]; omega
                  have hrU2 : (r : Int) % 18446744073709551616 = (r : Int) := by omega
                  obtain ⟨s, hs⟩ : ∃ s, s = 2 ^ r := ⟨_, rfl⟩
                  have hs256 : s < 256 := by rw [hs]; exact Nat.pow_lt_pow_right (a := 2) (n := 8) (by decide) hr8
                  have hsI : (2 : Int) ^ r = (s : Int) := by rw [hs]; simp
                  have hsM : (s : Int) % 256 = (s : Int) := by omega
                  have hsW : IntKind.u8.wrap (s : Int) = (s : Int) := wraps_u8 _ (by omega) (by omega)
                  obtain ⟨x, hx⟩ : ∃ x, x = E.getD q 0 := ⟨_, rfl⟩
                  have hx256 : x < 256 := by rw [hx]; exact getT HE.out.2.1 _
                  obtain ⟨u, hu⟩ : ∃ u, u = x ^^^ s := ⟨_, rfl⟩
                  have hxu : bits BinOp.xor IntKind.u8 (x : Int) (s : Int) = (u : Int) := by rw [hu]; exact u8_xor_nat x s hx256 hs256
                  have cx : wr.cell? ⟨w.heap.size, q, none⟩ = some (.int .u8 (x : Int)) := by rw [cell_of_row wr _ _ _ _ _ HR.out, bs_get _ _ (by rw [HE.out.1]; exact hqn), hx]
                  have fz : wr.frozen? ⟨w.heap.size, q, none⟩ = false := frozen_of_row wr _ q _ _ HR.out
                  have HR1 : Hid ((wr.setCell ⟨w.heap.size, q, none⟩ (.int .u8 (u : Int))).heap[w.heap.size]? = some (.cells (bs (E.set q u)) 5 (0, 0))) := by
                    refine (heap_setCell_same _ _ _ _ _ _ HR.out).trans ?_
                    rw [bs_set]
                  have HE1 : Hid ((E.set q u).length = n ∧ Byt (E.set q u) ∧ num (E.set q u) = num D ^^^ (2 ^ τ * (m % 2 ^ (k + 1)))) := by
                    have e1 : E.set q u = E.set ((τ + k) / 8) (E.getD ((τ + k) / 8) 0 ^^^ 2 ^ ((τ + k) % 8)) := by rw [hu, hx, hs, hq, hr]
                    refine ⟨by rw [List.length_set]; exact HE.out.1, ?_, ?_⟩
                    · rw [e1]
                      exact set_byt HE.out.2.1 _ _ (by omega)
                    · rw [e1, num_flip E (τ + k) HE.out.2.1 (by rw [HE.out.1]; omega), HE.out.2.2, HST.out, Nat.one_mul, Nat.xor_assoc]
                  have HW1 : Hid (Tch2 w.heap.size w' (wr.setCell ⟨w.heap.size, q, none⟩ (.int .u8 (u : Int)))) := HW.out.setCell _
                  clear hq hr hs hx hu HE HR HW HST
                  go_wp2
                  exact ⟨⟨k + 1, E.set q u, rfl, by omega, HE1, HR1, HW1⟩, by simp only [intOf]; omega⟩
                · have hb0 : g % 2 = 0 := by omega
                  rw [hb0] at hand HST
                  have HE1 : Hid (E.length = n ∧ Byt E ∧ num E = num D ^^^ (2 ^ τ * (m % 2 ^ (k + 1)))) := ⟨HE.out.1, HE.out.2.1, by rw [HST.out, Nat.zero_mul, Nat.xor_zero]; exact HE.out.2.2⟩
                  clear HE HST
                  go_wp2
                  exact ⟨⟨k + 1, E, rfl, by omega, HE1, HR, HW⟩, by simp only [intOf]; omega⟩
              · have hk1 : ¬ ((k : Int) < 32) := by omega
                have hke : k = 32 := by omega
                subst hke
                have hE1 := HE.out.1
                have hE2 := HE.out.2.1
                have hE3 : num E = num D ^^^ (2 ^ τ * m) := by
                  have := HE.out.2.2
                  rw [Nat.mod_eq_of_lt hm] at this
                  exact this
                obtain ⟨kE, hkE⟩ : ∃ k, k = crcN E := ⟨_, rfl⟩
                have hneN : ¬ kE = kD := by
                  rw [hkE, HKD.out]
                  exact crc_turn D E bD hE2 (by omega) τ m hm hm0 (by omega) hE3
                have hne : ((kE : Int) != (kD : Int)) = true := by
                  rw [bne_iff_ne]
                  omega
                have b7 : Below w.heap.size w wr := ⟨HW.out.os.trans B5.out.os, HW.out.tape.trans B5.out.tape, HW.out.output.trans B5.out.output, by rw [HW.out.size]; exact B5.out.size, fun j hj => (HW.out.block j (by omega)).trans (B5.out.block j hj)⟩
                have tc7 : Tc wr := ht.below b7 ht.sz
                have yA7 : Byl XA A wr := HYF.out.1 wr (YA.out.below b7)
                have yB7 : Byl XB B wr := HYF.out.2.1 wr (YB.out.below b7)
                have yC7 : Byl XC C wr := HYF.out.2.2 wr (YC.out.below b7)
                have yE7 : Byl (.slice (some ⟨w.heap.size, 0, none⟩) n n) E wr := by
                  have := byl_row HR.out (by rw [hE1]; unfold maxLen; omega)
                  rw [hE1] at this
                  exact this
                have hdr : Below wr.heap.size wr wr.drew := (Below.refl wr.heap.size wr).drew
                have call7 : ∀ (v : Value) (l : List Nat) (q : Nat), Byt l → l.length ≤ 281474976710656 → Byl v l wr → q = crcN l → ∀ (bb : Bool) (W : World), Below wr.heap.size wr W → Calls Tryd.prog 4 #[v] W fun e w' => e = .returned (.int .u32 (q : Int)) ∧ Below wr.heap.size wr w' := fun v l q h1 h2 h3 h4 bb W hW => by
                  subst h4
                  exact (crc_any l h1 h2 v W (h3.below hW) (tc7.below hW tc7.sz)).mono fun e w' ⟨x1, x2⟩ => ⟨x1, by rw [x2]; exact hW⟩
                have C1 : Hid (∀ (bb : Bool) (W : World), Below wr.heap.size wr W → Calls Tryd.prog 4 #[XA] W fun e w' => e = .returned (.int .u32 (kA : Int)) ∧ Below wr.heap.size wr w') := call7 XA A kA bA (by omega) yA7 HKK.out.1
                have C2 : Hid (∀ (bb : Bool) (W : World), Below wr.heap.size wr W → Calls Tryd.prog 4 #[XB] W fun e w' => e = .returned (.int .u32 (kB : Int)) ∧ Below wr.heap.size wr w') := call7 XB B kB bB (by omega) yB7 HKK.out.2.1
                have C3 : Hid (∀ (bb : Bool) (W : World), Below wr.heap.size wr W → Calls Tryd.prog 4 #[XC] W fun e w' => e = .returned (.int .u32 (kC : Int)) ∧ Below wr.heap.size wr w') := call7 XC C kC bC (by omega) yC7 HKK.out.2.2
                have C4 : Hid (∀ (bb : Bool) (W : World), Below wr.heap.size wr W → Calls Tryd.prog 4 #[.slice (some ⟨w.heap.size, 0, none⟩) n n] W fun e w' => e = .returned (.int .u32 (kE : Int)) ∧ Below wr.heap.size wr w') := call7 _ E kE hE2 (by omega) yE7 hkE
                have HB7 : Hid (Below w.heap.size w wr) := b7
                have hsz7 : w.heap.size ≤ wr.heap.size := b7.size
                have HDR : Hid (Below wr.heap.size wr wr.drew) := hdr
                clear HE HR HW hE1 hE2 hE3 hkE b7 tc7 yA7 yB7 yC7 yE7 call7 hneN hdr
                as_aux_lemma =>
                go_wp2_with fail
                rename_i Q1 K1 hK
                refine wp_region_vals (ops := reg24) (m := 16) (c := 17) (V := V24 w.heap.size n (.slice oa a.length ca) (.slice ob b.length cb) (.slice oc c.length cc) XA XB XC kE kD kA kB kC kAB) (S := fun _ W => Below wr.heap.size wr W) (by rw [reg24_size]; omega) (by rw [reg24_size]; omega) (fun o ho listed hd => (by have := dep_of ho hd 16 (by kernel_rfl); unfold Array.getD at this ⊢; split at this <;> simp_all)) (by kernel_rfl) (fun i o ho => (okR_at okR24 ho).1) (fun i j o oj d ho hj q1 q2 => (okR_at okR24 ho).2.2 j oj d hj q1 q2) (fun i o d ho q => (okR_at okR24 ho).2.1 d q)
                  (step24 _ w.heap.size n (.slice oa a.length ca) (.slice ob b.length cb) (.slice oc c.length cc) XA XB XC kE kD kA kB kC kAB _ (fun _ _ _ h => h) _ rfl rfl rfl rfl rfl hXA hXB hXC C1.out C2.out C3.out hx1 hx2 C4.out hne) HDR.out (fun w9 hS => ?_)
                have hB9 : Below w.heap.size w w9 := HB7.out.trans (hS.mono hsz7)
                show K1 _ w9
                rw [put24]
                refine hK _ _ ?_
                clear C1 C2 C3 C4 HDR
                go_wp2
                go_ret
                exact ⟨rfl, hB9⟩
end Go.Proofs.YtnemnnocfbcaoaaDoor
