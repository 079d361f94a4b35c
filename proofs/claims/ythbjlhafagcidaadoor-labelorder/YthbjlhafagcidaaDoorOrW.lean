/- LabelOrder: within. -/
import Derived.Test.YthbjlhafagcidaaDoorSr5
namespace Go.Proofs.YthbjlhafagcidaaDoor
open Go.RowKit Go.Shelf Go.Sort
theorem Ls.at {v : Value} {L : List Lb} {w : World} (h : Ls v L w) (hn : 0 < L.length) : ∃ b off cap, v = .slice (some ⟨b, off, none⟩) L.length cap ∧ L.length ≤ cap ∧ cap ≤ maxLen ∧ b < w.heap.size ∧ Lr b off L w := by
  rcases h with ⟨rfl, _⟩ | h
  · simp at hn
  · exact h
theorem Ls.form2 {v : Value} {L : List Lb} {w : World} (h : Ls v L w) : ∃ o c, v = .slice o L.length c ∧ (0 < L.length → ∃ b off, o = some ⟨b, off, none⟩ ∧ Lr b off L w) := by
  obtain ⟨o, c, rfl, -, -⟩ := h.form
  refine ⟨o, c, rfl, fun hn => ?_⟩
  obtain ⟨b, off, cap, he, -, -, -, hr⟩ := h.at hn
  simp only [Value.slice.injEq] at he
  exact ⟨b, off, he.1, hr⟩
theorem drewN_ex {w wr : World} (h : ∃ q, wr = w.drewN q) (m : Nat) : ∃ q, wr.drewN m = w.drewN q := by
  obtain ⟨q, rfl⟩ := h
  exact ⟨q + m, by unfold World.drewN; simp [Nat.add_assoc]⟩
attribute [local go_sem ↓] toLd toEq
set_option maxRecDepth 100000 in
set_option maxHeartbeats 2000000 in
theorem within_any (A B : List Lb) (hA : A.length ≤ 4398046511104) (hB : B.length ≤ 4398046511104) (va vb : Value) (w : World) (ha : Ls va A w) (hb : Ls vb B w) :
    Calls Tryd.prog 9 #[va, vb] w fun e w' => e = .returned (.bool (decide (∀ x ∈ A, x ∈ B))) ∧ ∃ q, w' = w.drewN q := by
  obtain ⟨o, c, rfl, hra⟩ := ha.form2
  obtain ⟨o', c', rfl, hrb⟩ := hb.form2
  obtain ⟨n, hn⟩ : ∃ n, n = A.length := ⟨_, rfl⟩
  obtain ⟨m, hm⟩ : ∃ m, m = B.length := ⟨_, rfl⟩
  rw [← hn] at hA hra ⊢
  rw [← hm] at hB hrb ⊢
  have HN : Hid (n = A.length ∧ m = B.length) := ⟨hn, hm⟩
  have HA : Hid (0 < n → ∃ b off, o = some ⟨b, off, none⟩ ∧ Lr b off A w) := hra
  have HB : Hid (0 < m → ∃ b off, o' = some ⟨b, off, none⟩ ∧ Lr b off B w) := hrb
  clear ha hb hra hrb hn hm
  go_enter Tryd.func9, Tryd.ntmps9
  go_wp2_with fail
  go_loopw [5] (fun iv wr => ∃ k : Nat, iv = .int .i64 (k : Int) ∧ k ≤ n ∧ Hid (∀ x ∈ A.take k, x ∈ B) ∧ Hid (∃ q, wr = w.drewN q)) (fun iv _ => n - (intOf iv).toNat)
  case atStart => exact ⟨0, rfl, by omega, by intro x hx; simp at hx, ⟨0, rfl⟩⟩
  case round =>
    obtain ⟨i, rfl, hi, HK, HQ⟩ := hrel
    by_cases hlt : i < n
    · have hlt' : (i : Int) < (n : Int) := by omega
      have hi0 : (0 : Int) ≤ (i : Int) := by omega
      obtain ⟨b, off, rfl, hr⟩ := HA.out (by omega)
      have hiA : i < A.length := by have := HN.out.1; omega
      obtain ⟨x, hx⟩ : ∃ x, A[i]? = some x := ⟨_, List.getElem?_eq_getElem hiA⟩
      have HX : Hid (A[i]? = some x) := hx
      have HRA : Hid (Lr b off A w) := hr
      clear hx hr hiA
      obtain ⟨WO, hWO⟩ : ∃ WO : World, WO = wr := ⟨_, rfl⟩
      subst hWO
      go_wp2_with fail
      go_loopw [6, 7] (fun fv kv wq => ∃ k : Nat, kv = .int .i64 (k : Int) ∧ k ≤ m ∧ fv = .bool (decide (x ∈ B.take k)) ∧ Hid (∃ q, wq = w.drewN q)) (fun _ kv _ => m - (intOf kv).toNat)
      case atStart => exact ⟨0, rfl, by omega, by simp, HQ⟩
      case round =>
        clear HQ
        obtain ⟨k, rfl, hk, rfl, HQ⟩ := hrel
        by_cases hf : x ∈ B.take k
        · have hd : decide (x ∈ B.take k) = true := decide_eq_true hf
          rw [hd]
          have HK2 : Hid (∀ y ∈ A.take (i + 1), y ∈ B) := by
            intro y hy
            have hiA : i < A.length := by have := HN.out.1; omega
            rw [List.take_succ_eq_append_getElem hiA, List.mem_append, List.mem_singleton] at hy
            rcases hy with hy | rfl
            · exact HK.out y hy
            · have := HX.out
              rw [List.getElem?_eq_getElem hiA] at this
              rw [Option.some.inj this]
              exact List.mem_of_mem_take hf
          have HF : Hid (x ∈ B.take k) := hf
          clear hd hf
          go_wp2
          all_goals exact ⟨⟨i + 1, by rfl, by omega, HK2, HQ⟩, by simp only [intOf]; omega⟩
        · have hd : decide (x ∈ B.take k) = false := decide_eq_false hf
          rw [hd]
          by_cases hl2 : k < m
          · have hl2' : (k : Int) < (m : Int) := by omega
            have hk0 : (0 : Int) ≤ (k : Int) := by omega
            obtain ⟨b', off', rfl, hr'⟩ := HB.out (by omega)
            have hkB : k < B.length := by have := HN.out.2; omega
            obtain ⟨y, hy⟩ : ∃ y, B[k]? = some y := ⟨_, List.getElem?_eq_getElem hkB⟩
            have hL : Lr b off A wr ∧ Lr b' off' B wr := by obtain ⟨q, rfl⟩ := HQ.out; exact ⟨HRA.out, hr'⟩
            have lx := fun q => run_ldx (wr.drewN q) b _ x (hL.1 _ _ HX.out)
            have ly := fun q => run_ldx (wr.drewN q) b' _ y (hL.2 _ _ hy)
            have heq := fun q => run_eqR (wr.drewN q) x.h y.h x.s y.s x.hl y.hl
            have he : decide (x.h = y.h ∧ x.s = y.s) = decide (x ∈ B.take (k + 1)) := by
              have e1 : B.take (k + 1) = B.take k ++ [y] := by
                rw [List.take_succ_eq_append_getElem hkB]
                rw [List.getElem?_eq_getElem hkB] at hy
                rw [Option.some.inj hy]
              rw [e1]
              by_cases hxy : x = y
              · subst hxy
                simp
              · rw [decide_eq_false (fun h => hxy (Lb.ext' h.1 h.2)), decide_eq_false]
                rw [List.mem_append, List.mem_singleton]
                rintro (h | h)
                · exact hf h
                · exact hxy h
            rw [he] at heq
            have HQ2 : Hid (∀ q, ∃ q', wr.drewN q = w.drewN q') := fun q => drewN_ex HQ.out q
            clear hd hf hL hy hkB he hr' HQ
            go_wp2_with fail
            go_quiet (fail)
            go_wp2
            exact ⟨⟨k + 1, by rfl, by omega, rfl, HQ2.out nq⟩, by simp only [intOf]; omega⟩
          · have hl2' : ¬ ((k : Int) < (m : Int)) := by omega
            have hv : Hid (decide (∀ y ∈ A, y ∈ B) = false) := by
              show _ = _
              refine decide_eq_false fun h => hf ?_
              rw [List.take_of_length_le (by have := HN.out.2; omega)]
              exact h x (List.mem_of_getElem? HX.out)
            clear hd hf
            go_wp2
            go_ret
            exact ⟨by rw [hv.out]; rfl, HQ.out⟩
    · have hlt' : ¬ ((i : Int) < (n : Int)) := by omega
      have hv : Hid (decide (∀ y ∈ A, y ∈ B) = true) := by
        show _ = _
        have := HK.out
        rw [List.take_of_length_le (by have := HN.out.1; omega)] at this
        exact decide_eq_true this
      go_wp2
      go_ret
      exact ⟨by rw [hv.out]; rfl, HQ.out⟩
end Go.Proofs.YthbjlhafagcidaaDoor
