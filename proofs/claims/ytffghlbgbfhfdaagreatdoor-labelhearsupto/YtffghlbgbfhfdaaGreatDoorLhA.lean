/- The document's pieces: what stands between colons. -/
import Derived.Test.YtffghlbgbfhfdaaGreatDoorLnS
import Derived.Deep.AppendLies
namespace Go.Proofs.YtffghlbgbfhfdaaGreatDoor
open Go.RowKit
/-- What stands between colons, with something read already. -/
def pcsA : List UInt8 → List UInt8 → List (List UInt8)
  | p, [] => [p]
  | p, x :: r => if x = 58 then p :: pcsA [] r else pcsA (p ++ [x]) r
theorem pcsA_len : ∀ (r p : List UInt8), 1 ≤ (pcsA p r).length ∧ (pcsA p r).length ≤ r.length + 1
  | [], p => by simp [pcsA]
  | x :: r, p => by
    unfold pcsA
    split
    · have := pcsA_len r []
      simp only [List.length_cons]
      omega
    · have := pcsA_len r (p ++ [x])
      simp only [List.length_cons]
      omega
theorem pcsA_sz : ∀ (r p : List UInt8), ∀ q ∈ pcsA p r, q.length ≤ p.length + r.length
  | [], p, q, h => by
    simp only [pcsA, List.mem_singleton] at h
    rw [h]
    simp
  | x :: r, p, q, h => by
    unfold pcsA at h
    split at h
    · rcases List.mem_cons.1 h with rfl | h
      · simp
      · have := pcsA_sz r [] q h
        simp only [List.length_nil, List.length_cons] at this ⊢
        omega
    · have := pcsA_sz r (p ++ [x]) q h
      simp only [List.length_append, List.length_cons, List.length_nil] at this ⊢
      omega
theorem info9 : (Tryz.prog.info? 9).map (fun i => (i.zero, i.size, i.bytes)) = some (some (.string ⟨#[]⟩), 1, 16) := by kernel_rfl
/-- Texts as cells. -/
def ts (l : List (List UInt8)) : List Value := l.map fun x => Value.string (ofL x)
theorem ts_app (l e : List (List UInt8)) : ts (l ++ e) = ts l ++ ts e := by simp [ts]
def appS (ty : Nat) (vs : Array Value) : Sem Value := Builtin.append_ #[46, 46] ty vs
theorem toAppS (ty : Nat) (vs : Array Value) : Builtin.append_ #[46, 46] ty vs = appS ty vs := rfl
theorem run_appS (w : World) (base n : Nat) (v : Value) (l : List (List UInt8)) (x : List UInt8) (hown : w.ownsRow base 9 1 v n (ts l)) (hb : n + 1 ≤ 2199023255552) (hbase : base ≤ w.heap.size) :
    ∃ v' w', (appS 46 #[v, .slice (some ⟨w.heap.size, 0, none⟩) 1 1]).run Tryz.prog (w.alloc (.cells #[.string (ofL x)] 9)) = .ok v' w' ∧ w'.ownsRow base 9 1 v' (n + 1) (ts (l ++ [x])) ∧ Below base w w' := by
  obtain ⟨i0, hi0, hz0, hz1, hz2⟩ := info_parts info9
  obtain ⟨v', w', hr, ho, hg, _⟩ := run_append_own (P := Tryz.prog) (w.alloc (.cells #[.string (ofL x)] 9)) base 46 46 9 i0 _ 1 16 Tryz.underlying46 hi0 hz0 hz1 hz2 rfl (by omega) v n _ (hown.alloc _) ⟨w.heap.size, 0, none⟩ 1 1 [.string (ofL x)] rfl (fun j u hu => by
    have hj : j = 0 := by have := (List.getElem?_eq_some_iff.1 hu).1; simpa using this
    subst hj
    simp at hu
    rw [← hu, Addr.add_mid, cell_of_row _ _ _ _ _ _ (heap_alloc_new w _)]
    rfl) (fun u hu => by rw [List.mem_singleton.1 hu]; rfl) (by unfold maxLen; omega) (by omega) (by simp; omega)
  refine ⟨v', w', hr, ?_, ?_⟩
  · rw [ts_app]; exact ho
  · exact below_grown ((Below.refl _ w).alloc hbase _) hg (by simp; omega) (fun g hg => (hown.lt g hg).1)
theorem own_belowG {W W' : World} {base e size n : Nat} {v : Value} {xs : List Value} (h : W.ownsRow base e size v n xs) (b : Below W.heap.size W W') : W'.ownsRow base e size v n xs := by
  obtain ⟨hl, h⟩ := h
  refine ⟨hl, ?_⟩
  rcases h with h | ⟨g, cap, cur, h1, h2, h3, h4⟩
  · exact .inl h
  · exact .inr ⟨g, cap, cur, h1, h2, (b.block g (by have := (Array.getElem?_eq_some_iff.1 h3).1; omega)).trans h3, h4⟩
theorem ext_mid (s : ByteArray) (a b : Nat) : s.extract a b = ofL ((s.data.toList.drop a).take (b - a)) := by
  apply ByteArray.ext
  rw [ByteArray.data_extract]
  apply Array.ext'
  simp [ofL]
attribute [local go_sem ↓] toAppS
/-- What pieces answers. -/
def PcP (s : ByteArray) (w : World) (e : Ending) (w' : World) : Prop :=
  Below w.heap.size w w' ∧ ∃ v, e = .returned v ∧ w'.ownsRow w.heap.size 9 1 v (pcsA [] s.data.toList).length (ts (pcsA [] s.data.toList))
theorem mid_one (l : List UInt8) (f k : Nat) (hk : k < l.length) (hf : f ≤ k) : (l.drop f).take (k + 1 - f) = (l.drop f).take (k - f) ++ [l[k]] := by
  rw [show k + 1 - f = (k - f) + 1 by omega, List.take_succ_eq_append_getElem (by rw [List.length_drop]; omega)]
  congr 2
  rw [List.getElem_drop]
  congr 1
  omega
set_option maxRecDepth 100000 in
set_option maxHeartbeats 3200000 in
theorem pieces_any (s : ByteArray) (hs : s.size ≤ 1099511627776) (w : World) :
    Calls Tryz.prog 18 #[.string s] w (PcP s w) := by
  obtain ⟨R, hR⟩ : ∃ R, R = pcsA [] s.data.toList := ⟨_, rfl⟩
  have hsL : s.data.toList.length = s.size := Array.length_toList
  have hRl := (pcsA_len s.data.toList []).2
  rw [← hR, hsL] at hRl
  have HR : Hid (R = pcsA [] s.data.toList) := hR
  have HL : Hid (s.data.toList.length = s.size ∧ R.length ≤ s.size + 1) := ⟨hsL, hRl⟩
  unfold PcP
  rw [← hR]
  clear hR hsL hRl
  go_enter Tryz.func18, Tryz.ntmps18
  go_wp2_with fail
  go_loopw [3, 4, 5] (fun v fv iv wr => ∃ (f k : Nat) (acc : List (List UInt8)), fv = .int .i64 (f : Int) ∧ iv = .int .i64 (k : Int) ∧ f ≤ k ∧ k ≤ s.size ∧ Hid (wr.ownsRow w.heap.size 9 1 v acc.length (ts acc)) ∧ Hid (acc ++ pcsA ((s.data.toList.drop f).take (k - f)) (s.data.toList.drop k) = R) ∧ Below w.heap.size w wr) (fun _ _ iv _ => s.size - (intOf iv).toNat)
  case atStart => exact ⟨0, 0, [], rfl, rfl, Nat.le_refl _, Nat.zero_le _, World.ownsRow_nil _ _ _ _, by show _ = _; rw [HR.out]; simp, Below.refl _ w⟩
  case round =>
    obtain ⟨f, k, acc, rfl, rfl, hfk, hks, HO, HA, bel⟩ := hrel
    have hbz := bel.size
    have hacc : acc.length ≤ s.size + 1 := by
      have := congrArg List.length HA.out
      rw [List.length_append] at this
      have := HL.out.2
      omega
    by_cases hlt : k < s.size
    · have hlt' : (k : Int) < (s.size : Int) := by omega
      have ix := fun (W : World) => idx9 W s k hlt
      have hkl : k < s.data.toList.length := by rw [HL.out.1]; exact hlt
      have hdk : s.data.toList.drop k = s.data.toList[k] :: s.data.toList.drop (k + 1) := List.drop_eq_getElem_cons hkl
      have hbk : byt s k = (s.data.toList[k]).toNat := by
        rw [← byt_at s k hlt]
        rfl
      by_cases hc : byt s k = 58
      · have e58 : s.data.toList[k] = 58 := by
          apply UInt8.toNat_inj.1
          rw [← hbk, hc]
          rfl
        obtain ⟨p, hp⟩ : ∃ p, p = (s.data.toList.drop f).take (k - f) := ⟨_, rfl⟩
        have hx : s.extract f k = ofL p := by rw [ext_mid, hp]
        have HA2 : Hid ((acc ++ [p]) ++ pcsA ((s.data.toList.drop (k + 1)).take (k + 1 - (k + 1))) (s.data.toList.drop (k + 1)) = R) := by
          show _ = _
          rw [← HA.out, hdk, ← hp, pcsA, if_pos e58, Nat.sub_self, List.take_zero]
          simp
        obtain ⟨v', w2, hr2, hown2, bel2⟩ := run_appS wr w.heap.size acc.length _ acc p HO.out (by omega) hbz
        have hown2' : Hid (w2.ownsRow w.heap.size 9 1 v' (acc.length + 1) (ts (acc ++ [p]))) := hown2
        have bel2' : Hid (Below w.heap.size w w2) := bel.trans bel2
        rw [hc] at ix
        have i1 : (f : Int) ≤ (k : Int) := by omega
        have i2 : (k : Int) ≤ (s.size : Int) := by omega
        have i3 : (0 : Int) ≤ (f : Int) := by omega
        have hk1 : IntKind.i64.wrap ((k : Int) + 1) = (k : Int) + 1 := by rw [IntKind.wrap_i64]; omega
        clear HO HA bel hown2 bel2 hp hdk hbk e58 hc hkl hbz hacc
        go_wp2_with fail
        go_roundw
        case rel => exact ⟨k + 1, k + 1, acc ++ [p], by go_num, by go_num, Nat.le_refl _, by omega, by show World.ownsRow _ _ _ _ _ _ _; rw [List.length_append]; exact hown2'.out, HA2, bel2'.out⟩
        case measure => simp [intOf]; omega
      · have hb' : ((((byt s k : Nat) : Int) == 58)) = false := by simp; omega
        have e58 : ¬ s.data.toList[k] = 58 := fun e => hc (by rw [hbk, e]; rfl)
        have HA2 : Hid (acc ++ pcsA ((s.data.toList.drop f).take (k + 1 - f)) (s.data.toList.drop (k + 1)) = R) := by
          show _ = _
          rw [← HA.out, hdk, pcsA, if_neg e58, mid_one _ f k hkl hfk]
        have hk1 : IntKind.i64.wrap ((k : Int) + 1) = (k : Int) + 1 := by rw [IntKind.wrap_i64]; omega
        clear HA hdk hbk e58 hc hkl hbz hacc
        go_wp2_with fail
        go_roundw
        case rel => exact ⟨f, k + 1, acc, rfl, by go_num, by omega, by omega, HO, HA2, bel⟩
        case measure => simp [intOf]; omega
    · have hke : k = s.size := by omega
      subst hke
      obtain ⟨p, hp⟩ : ∃ p, p = (s.data.toList.drop f).take (s.size - f) := ⟨_, rfl⟩
      have hx : s.extract f s.size = ofL p := by rw [ext_mid, hp]
      have HA2 : Hid (acc ++ [p] = R) := by
        show _ = _
        rw [← HA.out, ← hp, List.drop_eq_nil_of_le (by rw [HL.out.1]; exact Nat.le_refl _), pcsA]
      obtain ⟨v', w2, hr2, hown2, bel2⟩ := run_appS wr w.heap.size acc.length _ acc p HO.out (by omega) hbz
      have hown2' : Hid (w2.ownsRow w.heap.size 9 1 v' R.length (ts R)) := by
        show World.ownsRow _ _ _ _ _ _ _
        rw [← HA2.out, List.length_append]
        exact hown2
      have bel2' : Hid (Below w.heap.size w w2) := bel.trans bel2
      have i1 : (f : Int) ≤ (s.size : Int) := by omega
      have i3 : (0 : Int) ≤ (f : Int) := by omega
      clear HO HA bel hown2 bel2 hp hbz hacc HA2
      go_wp2_with fail
      go_ret
      exact ⟨bel2'.out, v', rfl, hown2'.out⟩
end Go.Proofs.YtffghlbgbfhfdaaGreatDoor
