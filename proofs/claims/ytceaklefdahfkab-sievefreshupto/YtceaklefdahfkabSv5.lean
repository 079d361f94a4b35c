/- The sieve's table: what neighbours share. -/
import Derived.Test.YtceaklefdahfkabSv4
namespace Go.Proofs.Ytceaklefdahfkab
open Go.RowKit
/-- A list of numbers of a kind, as cells. -/
def ik (k : IntKind) (l : List Nat) : Array Value := (l.map fun (b : Nat) => Value.int k (b : Int)).toArray
theorem ik_size (k : IntKind) (l : List Nat) : (ik k l).size = l.length := by simp [ik]
theorem ik_get (k : IntKind) (l : List Nat) (j : Nat) (h : j < l.length) : (ik k l)[j]? = some (.int k ((l.getD j 0 : Nat) : Int)) := by simp [ik, List.getD, h]
theorem ik_set (k : IntKind) (l : List Nat) (j b : Nat) : (ik k l).setIfInBounds j (.int k (b : Int)) = ik k (l.set j b) := by simp [ik, List.map_set]
/-- A text's bytes. -/
def tl (s : ByteArray) : List Nat := s.data.toList.map (·.toNat)
theorem tl_len (s : ByteArray) : (tl s).length = s.size := by
  unfold tl
  rw [List.length_map, Array.length_toList]
  rfl
theorem tl_get (s : ByteArray) (k : Nat) (h : k < s.size) : (tl s).getD k 0 = (s[k]'h).toNat := by
  have h2 : k < s.data.size := h
  unfold tl
  rw [List.getD, List.getElem?_map, Array.getElem?_toList, Array.getElem?_eq_getElem h2]
  rfl
/-- How many first bytes two words share. -/
def cpf : List Nat → List Nat → Nat
  | x :: a, y :: b => if x = y then cpf a b + 1 else 0
  | _, _ => 0
theorem cpf_le : ∀ a b, cpf a b ≤ a.length
  | [], _ => by simp [cpf]
  | _ :: _, [] => by simp [cpf]
  | x :: a, y :: b => by
    have := cpf_le a b
    unfold cpf
    split <;> simp <;> omega
/-- Shared so far, and how it goes on. -/
theorem cpf_eq : ∀ (a b : List Nat) (j : Nat), a.length = b.length → j ≤ a.length → a.take j = b.take j → (j = a.length ∨ a.getD j 0 ≠ b.getD j 0) → cpf a b = j
  | [], [], j, _, h, _, _ => by simp at h; simp [cpf, h]
  | [], _ :: _, _, h, _, _, _ => by simp at h
  | _ :: _, [], _, h, _, _, _ => by simp at h
  | x :: a, y :: b, 0, _, _, _, h => by
    rcases h with h | h
    · simp at h
    · unfold cpf; rw [if_neg (by simpa using h)]
  | x :: a, y :: b, j + 1, h1, h2, h3, h4 => by
    simp only [List.take_succ_cons, List.cons.injEq] at h3
    unfold cpf
    rw [if_pos h3.1, cpf_eq a b j (by simpa using h1) (by simpa using h2) h3.2 (by simpa using h4)]
def shr (ws : List (List Nat)) : List Nat := (List.range ws.length).map fun i => if i = 0 then 0 else cpf (ws.getD i []) (ws.getD (i - 1) [])
theorem shr_len (ws : List (List Nat)) : (shr ws).length = ws.length := by simp [shr]
theorem shr_get (ws : List (List Nat)) (i : Nat) (h : i < ws.length) : (shr ws).getD i 0 = if i = 0 then 0 else cpf (ws.getD i []) (ws.getD (i - 1) []) := by
  simp [shr, List.getD, h]
theorem info3 : (Try.prog.info? 3).map (fun i => (i.zero, i.size, i.bytes)) = some (some (.int .i64 0), 1, 8) := by kernel_rfl
/-- A made slice of ints, kept shut. -/
def mkI (l c : Value) : Sem Value := Instr.makeSlice 81 l c
theorem toMkI (l c : Value) : Instr.makeSlice 81 l c = mkI l c := rfl
set_option maxRecDepth 1000000 in
theorem run_mkI (w : World) (n : Nat) (hn : n ≤ 1099511627776) : ∃ w', (mkI (.int .i64 (n : Int)) (.int .i64 (n : Int))).run Try.prog w = .ok (.slice (some ⟨w.heap.size, 0, none⟩) n n) w' ∧ w'.heap[w.heap.size]? = some (.cells (ik .i64 (List.replicate n 0)) 3 (0, 0)) ∧ Below w.heap.size w w' := by
  obtain ⟨i0, hi0, hz0, hz1, hz2⟩ := info_parts info3
  have hr := run_make (P := Try.prog) w 81 3 i0 _ (by kernel_rfl) hi0 hz0 .i64 .i64 n n (by omega) (Int.le_refl _) (by rw [hz2]; omega) (by omega)
  simp only [Int.toNat_natCast] at hr
  refine ⟨_, hr, ?_, (Below.refl _ w).alloc (Nat.le_refl _) _⟩
  rw [heap_alloc_new, hz1, Nat.mul_one]
  congr 2
  apply Array.ext'
  have : (Value.int IntKind.i64 0).cells = #[Value.int .i64 0] := rfl
  rw [this, toList_madeCells_one]
  simp [ik]
/-- A text's byte, kept shut. -/
def ixS (s i : Value) : Sem Value := Instr.index 9 s i
theorem toIxS (s i : Value) : Instr.index 9 s i = ixS s i := rfl
theorem run_ixS (s : ByteArray) (j : Nat) (h : j < s.size) (w : World) : (ixS (.string s) (.int .i64 (j : Int))).run Try.prog w = .ok (.int .u8 (((tl s).getD j 0 : Nat) : Int)) w := by
  unfold ixS
  rw [run_index_string (P := Try.prog) w 9 s .i64 (j : Int) Try.underlying9, dif_pos ⟨by omega, by omega⟩, tl_get s j h]
  rfl
/-- What a cell holds. -/
def cellN (w : World) (a : Addr) : Nat := (intOf ((w.cell? a).getD undef)).toNat
/-- In the midst: the first i are done. -/
structure Sh (ws : List (List Nat)) (i : Nat) (r : List Nat) : Prop where
  len : r.length = ws.length
  done : ∀ j, j < i → r.getD j 0 = (shr ws).getD j 0
  zero : ∀ j, i ≤ j → r.getD j 0 = 0
theorem Sh.step {ws : List (List Nat)} {i j : Nat} {r : List Nat} (h : Sh ws i r) (hi : i < ws.length) (hj : (shr ws).getD i 0 = j) : Sh ws (i + 1) (r.set i j) := by
  have hl := h.len
  refine ⟨by rw [List.length_set]; exact hl, fun q hq => ?_, fun q hq => ?_⟩
  · by_cases he : i = q
    · subst he
      rw [hj]
      simp [List.getD, hl, hi]
    · rw [List.getD, List.getElem?_set_ne he, ← List.getD]
      exact h.done q (by omega)
  · rw [List.getD, List.getElem?_set_ne (by omega), ← List.getD]
    exact h.zero q (by omega)
theorem Sh.all {ws : List (List Nat)} {i : Nat} {r : List Nat} (h : Sh ws i r) (hi : ws.length ≤ i) : r = shr ws := by
  have hl := h.len
  apply List.ext_getElem
  · rw [hl, shr_len]
  · intro q h1 h2
    have := h.done q (by omega)
    simpa [List.getD, h1, h2] using this
theorem Below.same {B : Nat} {a w w' : World} (h : Below B a w) (h1 : w'.heap = w.heap) (h2 : w'.os = w.os) (h3 : w'.tape = w.tape) (h4 : w'.output = w.output) : Below B a w' :=
  ⟨h2.trans h.os, h3.trans h.tape, h4.trans h.output, by rw [h1]; exact h.size, fun j hj => by rw [h1]; exact h.block j hj⟩
attribute [local go_sem ↓] toMkI toIxS
set_option maxRecDepth 100000 in
set_option maxHeartbeats 1600000 in
theorem shared_any (l : List ByteArray) (hl : l.length ≤ 1000000) (m : Nat) (hm : m ≤ 64) (hs : ∀ s ∈ l, s.size = m) (v : Value) (w : World) (hv : St v l w) :
    Calls Try.prog 90 #[v] w fun e w' => e = .returned (.slice (some ⟨w.heap.size, 0, none⟩) l.length l.length) ∧ w'.heap[w.heap.size]? = some (.cells (ik .i64 (shr (l.map tl))) 3 (0, 0)) ∧ Below w.heap.size w w' := by
  obtain ⟨o, c, rfl, _, _, ho⟩ := hv.form
  obtain ⟨W0, r0, R0, B0⟩ := run_mkI w l.length (by omega)
  have HO : Hid (0 < l.length → ∃ b off, o = some ⟨b, off, none⟩ ∧ b < w.heap.size ∧ ∀ (j : Nat) s, l[j]? = some s → w.cell? ⟨b, off + j, none⟩ = some (.string s)) := ho
  have HR0 : Hid (W0.heap[w.heap.size]? = some (.cells (ik .i64 (List.replicate l.length 0)) 3 (0, 0))) := R0
  have HB0 : Hid (Below w.heap.size w W0) := B0
  have HS : Hid (∀ s ∈ l, s.size = m) := hs
  have SH0 : Hid (Sh (l.map tl) 1 (List.replicate l.length 0)) := by
    refine ⟨by simp, fun j hj => ?_, fun j _ => ?_⟩
    · have : j = 0 := by omega
      subst this
      by_cases h0 : 0 < l.length
      · rw [shr_get _ _ (by simpa using h0), if_pos rfl]; simp [List.getD, h0]
      · have : l = [] := List.length_eq_zero_iff.1 (by omega)
        subst this; rfl
    · by_cases hj : j < l.length <;> simp [List.getD, hj]
  clear hv ho R0 B0 hs
  obtain ⟨g, hg⟩ : ∃ g, g = w.heap.size := ⟨_, rfl⟩
  rw [← hg] at r0 HR0 HB0 ⊢
  have HG : Hid (g = w.heap.size) := hg
  clear hg
  go_enter Try.func90, Try.ntmps90
  go_wp2_with fail
  go_loopw [4] (fun iv wr => ∃ (i : Nat) (r : List Nat), iv = .int .i64 (i : Int) ∧ 1 ≤ i ∧ Hid (Sh (l.map tl) i r) ∧ Hid (wr.heap[g]? = some (.cells (ik .i64 r) 3 (0, 0))) ∧ Hid (Below g w wr)) (fun iv _ => l.length - (intOf iv).toNat)
  case atStart => exact ⟨1, _, rfl, Nat.le_refl _, SH0, HR0, HB0⟩
  case round =>
    clear SH0 HR0 HB0
    obtain ⟨i, r, rfl, hi, HSH, HR, HB⟩ := hrel
    by_cases hlt : i < l.length
    · have hi0 : (0 : Int) ≤ (i : Int) := by omega
      have hi1 : (i : Int) < (l.length : Int) := by omega
      obtain ⟨i', hi'⟩ : ∃ i', i = i' + 1 := ⟨i - 1, by omega⟩
      have e1 : IntKind.i64.wrap ((i : Int) - 1) = (i' : Int) := by rw [wi _ (by unfold I64; omega)]; omega
      have hi'0 : (0 : Int) ≤ (i' : Int) := by omega
      have hi'1 : (i' : Int) < (l.length : Int) := by omega
      obtain ⟨a, ha⟩ : ∃ a, l[i]? = some a := ⟨_, List.getElem?_eq_getElem hlt⟩
      obtain ⟨b, hb⟩ : ∃ b, l[i']? = some b := ⟨_, List.getElem?_eq_getElem (by omega)⟩
      obtain ⟨bo, off, rfl, hbz, hc⟩ := HO.out (by omega)
      have ha1 := HS.out a (List.mem_of_getElem? ha)
      have hb1 := HS.out b (List.mem_of_getElem? hb)
      have HCA : Hid (∀ W, Below g w W → W.cell? ⟨bo, off + i, none⟩ = some (.string a)) := fun W h => (World.cell?_of_block (w := w) (h.block bo (by have := HG.out; omega))).trans (hc i a ha)
      have HCB : Hid (∀ W, Below g w W → W.cell? ⟨bo, off + i', none⟩ = some (.string b)) := fun W h => (World.cell?_of_block (w := w) (h.block bo (by have := HG.out; omega))).trans (hc i' b hb)
      have HV : Hid (∀ j, j ≤ m → (tl a).take j = (tl b).take j → (j = m ∨ (tl a).getD j 0 ≠ (tl b).getD j 0) → (shr (l.map tl)).getD i 0 = j) := fun j h1 h2 h3 => by
        rw [shr_get _ _ (by simpa using hlt), if_neg (by omega)]
        have ea : (l.map tl).getD i [] = tl a := by simp [List.getD, ha]
        have eb : (l.map tl).getD (i - 1) [] = tl b := by rw [show i - 1 = i' by omega]; simp [List.getD, hb]
        rw [ea, eb]
        exact cpf_eq _ _ j (by rw [tl_len, tl_len, ha1, hb1]) (by rw [tl_len]; omega) h2 (by rw [tl_len, ha1]; exact h3)
      have I0 : Hid (∃ r', Sh (l.map tl) i r' ∧ True) := ⟨r, HSH.out, trivial⟩
      have hrl : r.length = l.length := by have := HSH.out.len; simpa using this
      have hr0 : r.getD i 0 = 0 := HSH.out.zero i (Nat.le_refl _)
      have HJ0 : Hid (wr.heap[g]? = some (.cells (ik .i64 (r.set i 0)) 3 (0, 0))) := by
        have : r.set i 0 = r := by
          apply List.ext_getElem?
          intro q
          by_cases hq : i = q
          · subst hq
            rw [List.getElem?_set_self (by omega)]
            have : r[i]? = some (r.getD i 0) := by simp [List.getD, hrl, hlt]
            rw [this, hr0]
          · rw [List.getElem?_set_ne hq]
        show _ = _
        rw [this]; exact HR.out
      obtain ⟨rr, hrr⟩ : ∃ rr, rr = r := ⟨_, rfl⟩
      rw [← hrr] at HJ0 hrl HSH
      clear I0 HR hrr hc ha hb hr0 hi'
      go_wp2_with fail
      go_loopw [14] (fun _ wr => ∃ j : Nat, j ≤ m ∧ Hid (wr.heap[g]? = some (.cells (ik .i64 (rr.set i j)) 3 (0, 0))) ∧ Hid ((tl a).take j = (tl b).take j) ∧ Hid (Below g w wr)) (fun _ wr => m - cellN wr ⟨g, i, none⟩)
      case atStart => exact ⟨0, by omega, HJ0, rfl, HB⟩
      case round =>
        clear HJ0 HB
        obtain ⟨j, hj, HJ, HE, HB⟩ := hrel
        have gi : (rr.set i j).getD i 0 = j := by simp [List.getD, hrl, hlt]
        have cg : wr.cell? ⟨g, i, none⟩ = some (.int .i64 (j : Int)) := by
          rw [cell_of_row wr _ _ _ _ _ HJ.out, ik_get _ _ _ (by rw [List.length_set]; omega), gi]
        have ca := HCA.out wr HB.out
        have cb := HCB.out wr HB.out
        have hj0 : (0 : Int) ≤ (j : Int) := by omega
        by_cases hjm : j < m
        · have hja : (j : Int) < (a.size : Int) := by omega
          have hjb : (j : Int) < (b.size : Int) := by omega
          have ia := run_ixS a j (by omega)
          have ib := run_ixS b j (by omega)
          have HAB : Hid ((tl a).take (j + 1) = (tl b).take (j + 1) ↔ (tl a).getD j 0 = (tl b).getD j 0) := by
            show _ ↔ _
            have la : j < (tl a).length := by rw [tl_len]; omega
            have lb : j < (tl b).length := by rw [tl_len]; omega
            rw [take_snoc la, take_snoc lb, HE.out]
            simp
          have HV1 : Hid ((tl a).getD j 0 ≠ (tl b).getD j 0 → (shr (l.map tl)).getD i 0 = j) := fun h => HV.out j hj HE.out (.inr h)
          revert ia ib HAB HV1
          generalize (tl a).getD j 0 = x, (tl b).getD j 0 = y
          intro ia ib HAB HV1
          have fz : wr.frozen? ⟨g, i, none⟩ = false := frozen_of_row wr _ _ _ _ HJ.out
          by_cases hxy : x = y
          · subst hxy
            have HE1 : Hid ((tl a).take (j + 1) = (tl b).take (j + 1)) := HAB.out.2 rfl
            have HJ1 : Hid ((wr.setCell ⟨g, i, none⟩ (.int .i64 ((j : Int) + 1))).heap[g]? = some (.cells (ik .i64 (rr.set i (j + 1))) 3 (0, 0))) := by
              have e : (.int .i64 ((j : Int) + 1) : Value) = .int .i64 ((j + 1 : Nat) : Int) := rfl
              rw [e]
              exact (heap_setCell_same _ _ _ _ _ _ HJ.out).trans (by rw [ik_set, List.set_set])
            have HB1 : Hid (Below g w (wr.setCell ⟨g, i, none⟩ (.int .i64 ((j : Int) + 1)))) := HB.out.setCell (Nat.le_refl _) _
            have HC : Hid (cellN (wr.setCell ⟨g, i, none⟩ (.int .i64 ((j : Int) + 1))) ⟨g, i, none⟩ = j + 1) := by
              show _ = _
              unfold cellN
              rw [cell_of_row _ _ _ _ _ _ HJ1.out, ik_get _ _ _ (by rw [List.length_set]; omega)]
              simp [List.getD, hrl, hlt, intOf]
            have HC0 : Hid (cellN wr ⟨g, i, none⟩ = j) := by show _ = _; unfold cellN; rw [cg]; simp [intOf]
            clear HJ HB HV1 HAB
            go_wp2_with fail
            go_quiet (fail)
            go_wp2
            exact ⟨⟨j + 1, by omega, HJ1, HE1, Below.same HB1.out rfl rfl rfl rfl⟩, by
              have h1 : cellN ((wr.drewN nq).setCell ⟨g, i, none⟩ (.int .i64 ((j : Int) + 1))) ⟨g, i, none⟩ = j + 1 := HC.out
              rw [h1, HC0.out]
              omega⟩
          · have hxy' : ¬ ((x : Int) = (y : Int)) := by omega
            have SH1 : Hid (Sh (l.map tl) (i + 1) (rr.set i j)) := HSH.out.step (by simpa using hlt) (HV1.out hxy)
            clear HV1 HAB hxy
            go_wp2_with fail
            go_quiet (fail)
            go_wp2
            exact ⟨⟨i + 1, _, by rfl, by omega, SH1, HJ, Below.drewN' HB.out nq⟩, by simp only [intOf]; omega⟩
        · have hje : j = m := by omega
          have hja : ¬ ((j : Int) < (a.size : Int)) := by omega
          have hjd : decide ((j : Int) < (a.size : Int)) = false := decide_eq_false hja
          have SH1 : Hid (Sh (l.map tl) (i + 1) (rr.set i j)) := HSH.out.step (by simpa using hlt) (HV.out j hj HE.out (.inl hje))
          clear hje
          go_wp2_with fail
          go_quiet (fail)
          go_wp2
          exact ⟨⟨i + 1, _, by rfl, by omega, SH1, HJ, Below.drewN' HB.out nq⟩, by simp only [intOf]; omega⟩
    · have hi1 : ¬ ((i : Int) < (l.length : Int)) := by omega
      have HF : Hid (wr.heap[g]? = some (.cells (ik .i64 (shr (l.map tl))) 3 (0, 0))) := by
        show _ = _
        rw [← HSH.out.all (by simpa using hlt)]; exact HR.out
      go_wp2
      go_ret
      exact ⟨rfl, HF.out, HB.out⟩
end Go.Proofs.Ytceaklefdahfkab
