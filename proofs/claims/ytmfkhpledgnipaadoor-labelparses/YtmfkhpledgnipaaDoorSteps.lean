/- splitSteps. -/
import Derived.Test.YtmfkhpledgnipaaDoorStr
namespace Go.Proofs.YtmfkhpledgnipaaDoor
open Go.RowKit
theorem info9 : (Tryd.prog.info? 9).map (fun i => (i.zero, i.size, i.bytes)) = some (some (.string ⟨#[]⟩), 1, 16) := by kernel_rfl
/-- Texts as cells. -/
def ts (l : List (List UInt8)) : List Value := l.map fun x => Value.string (ofL x)
theorem ts_app (l e : List (List UInt8)) : ts (l ++ e) = ts l ++ ts e := by simp [ts]
def appS (ty : Nat) (vs : Array Value) : Sem Value := Builtin.append_ #[37, 37] ty vs
theorem toAppS (ty : Nat) (vs : Array Value) : Builtin.append_ #[37, 37] ty vs = appS ty vs := rfl
theorem run_appS (w : World) (base n : Nat) (v : Value) (l : List (List UInt8)) (x : List UInt8) (hown : w.ownsRow base 9 1 v n (ts l)) (hb : n + 1 ≤ 1048576) (hbase : base ≤ w.heap.size) :
    ∃ v' w', (appS 37 #[v, .slice (some ⟨w.heap.size, 0, none⟩) 1 1]).run Tryd.prog (w.alloc (.cells #[.string (ofL x)] 9)) = .ok v' w' ∧ w'.ownsRow base 9 1 v' (n + 1) (ts (l ++ [x])) ∧ Below base w w' := by
  obtain ⟨i0, hi0, hz0, hz1, hz2⟩ := info_parts info9
  obtain ⟨v', w', hr, ho, hg, _⟩ := run_append_own (P := Tryd.prog) (w.alloc (.cells #[.string (ofL x)] 9)) base 37 37 9 i0 _ 1 16 Tryd.underlying37 hi0 hz0 hz1 hz2 rfl (by omega) v n _ (hown.alloc _) ⟨w.heap.size, 0, none⟩ 1 1 [.string (ofL x)] rfl (fun j u hu => by
    have hj : j = 0 := by have := (List.getElem?_eq_some_iff.1 hu).1; simpa using this
    subst hj
    simp at hu
    rw [← hu, Addr.add_mid, cell_of_row _ _ _ _ _ _ (heap_alloc_new w _)]
    rfl) (fun u hu => by rw [List.mem_singleton.1 hu]; rfl) (by unfold maxLen; omega) (by omega) (by simp; omega)
  refine ⟨v', w', hr, ?_, ?_⟩
  · rw [ts_app]; exact ho
  · exact below_grown ((Below.refl _ w).alloc hbase _) hg (by simp; omega) (fun g hg => (hown.lt g hg).1)
theorem ext_drop (s : ByteArray) (n : Nat) : s.extract n s.size = ofL (s.data.toList.drop n) := by
  apply ByteArray.ext
  rw [ByteArray.data_extract]
  apply Array.ext'
  show (s.data.extract n s.data.size).toList = _
  simp [ofL]
  exact List.take_of_length_le (by simp)
theorem own_below {W W' : World} {base e size n : Nat} {v : Value} {xs : List Value} (h : W.ownsRow base e size v n xs) (b : Below W.heap.size W W') : W'.ownsRow base e size v n xs := by
  obtain ⟨hl, h⟩ := h
  refine ⟨hl, ?_⟩
  rcases h with h | ⟨g, cap, cur, h1, h2, h3, h4⟩
  · exact .inl h
  · exact .inr ⟨g, cap, cur, h1, h2, (b.block g (by have := (Array.getElem?_eq_some_iff.1 h3).1; omega)).trans h3, h4⟩
/-- The steps of a way, each with its slash ahead. -/
def spl : Nat → List UInt8 → Nat → List (List UInt8) → List (List UInt8) × Option Nat
  | 0, _, _, acc => (acc, none)
  | _ + 1, [], _, acc => (acc, none)
  | f + 1, _ :: r, k, acc => if okS (pre 47 r) = true then spl f (r.drop (pre 47 r).length) (k + 1 + (pre 47 r).length) (acc ++ [pre 47 r]) else (acc, some (k + 1))
theorem spl_nil (f k : Nat) (acc : List (List UInt8)) : spl f [] k acc = (acc, none) := by cases f <;> rfl
/-- What splitSteps answers. -/
def StPost (s : ByteArray) (w : World) (e : Ending) (w' : World) : Prop :=
  Below w.heap.size w w' ∧ match spl s.size s.data.toList 0 [] with
    | (acc, none) => ∃ v, e = .returned (.tuple #[v, .int .i64 0, .int .i64 0]) ∧ w'.ownsRow w.heap.size 9 1 v acc.length (ts acc)
    | (_, some k) => e = .returned (.tuple #[.slice none 0 0, .int .i64 32, .int .i64 (k : Int)])
attribute [local go_sem ↓] toAppS
set_option maxRecDepth 100000 in
set_option maxHeartbeats 3200000 in
theorem steps_any (s : ByteArray) (hs : s.size ≤ 16384) (w : World) : Calls Tryd.prog 29 #[.string s] w (StPost s w) := by
  have hsz : s.data.toList.length = s.size := Array.length_toList
  have HSZ : Hid (s.data.toList.length = s.size) := hsz
  clear hsz
  go_enter Tryd.func29, Tryd.ntmps29
  go_wp2_with fail
  go_loopw [5, 6] (fun v i wr => ∃ (k fuel : Nat) (acc : List (List UInt8)), i = .int .i64 (k : Int) ∧ k ≤ s.size ∧ s.size ≤ k + fuel ∧ acc.length ≤ k ∧ Hid (wr.ownsRow w.heap.size 9 1 v acc.length (ts acc)) ∧ Hid (spl fuel (s.data.toList.drop k) k acc = spl s.size s.data.toList 0 []) ∧ Below w.heap.size w wr) (fun _ i _ => s.size - (intOf i).toNat)
  case atStart => exact ⟨0, s.size, [], rfl, by omega, by omega, by simp, World.ownsRow_nil _ _ _ _, rfl, Below.refl _ w⟩
  case round =>
    obtain ⟨k, fuel, acc, rfl, hk, hf, ha, hown, HS, bel⟩ := hrel
    have hbz := bel.size
    by_cases hlt : k < s.size
    · have hlt' : (k : Int) < (s.size : Int) := by omega
      obtain ⟨f, rfl⟩ : ∃ f, fuel = f + 1 := ⟨fuel - 1, by omega⟩
      obtain ⟨r, hr⟩ : ∃ r, r = s.data.toList.drop (k + 1) := ⟨_, rfl⟩
      have hx : s.extract (k + 1) s.size = ofL r := by rw [hr]; exact ext_drop s (k + 1)
      have hrl : r.length = s.size - (k + 1) := by rw [hr, List.length_drop, HSZ.out]
      have hdk : ∃ b, s.data.toList.drop k = b :: r := ⟨_, by rw [hr]; exact List.drop_eq_getElem_cons (by rw [HSZ.out]; exact hlt)⟩
      have hk1 : IntKind.i64.wrap ((k : Int) + 1) = (k : Int) + 1 := by rw [IntKind.wrap_i64]; omega
      have hk2 : (0 : Int) ≤ (k : Int) + 1 := by omega
      have hk3 : (k : Int) + 1 ≤ (s.size : Int) := by omega
      obtain ⟨st, hst⟩ : ∃ st, st = pre 47 r := ⟨_, rfl⟩
      have hstl : st.length ≤ r.length := by rw [hst]; exact pre_len 47 r
      have CC : Hid (∀ W, Calls Tryd.prog 41 #[.string (ofL r), .string ⟨#[47]⟩] W fun e w' => (∃ q b, e = .returned (.tuple #[.string (ofL st), .string q, .bool b])) ∧ Below W.heap.size W w') := fun W => by
        rw [hst]; exact cut_any (ofL r) (by rw [ofL_size]; omega) W
      have CI : Hid (∀ W, Calls Tryd.prog 42 #[.string (ofL st)] W fun e w' => e = .returned (.bool (okS st)) ∧ w' = W) := fun W => isStep_any (ofL st) (by rw [ofL_size]; omega) W
      obtain ⟨b0, hb0⟩ := hdk
      have HS2 : Hid (spl s.size s.data.toList 0 [] = if okS st = true then spl f (r.drop st.length) (k + 1 + st.length) (acc ++ [st]) else (acc, some (k + 1))) := by
        show _ = _
        rw [← HS.out, hb0, hst]
        rfl
      have HR : Hid (r.drop st.length = s.data.toList.drop (k + 1 + st.length)) := by show _ = _; rw [hr, List.drop_drop]
      clear hst hr hb0 HS
      go_wp2_with fail
      refine (CC.out _).mono ?_
      rintro _ w1 ⟨⟨q, b, rfl⟩, bel1⟩
      have bel1' : Below w.heap.size w w1 := bel.trans (bel1.mono hbz)
      have hown1 : Hid (w1.ownsRow w.heap.size 9 1 u5 acc.length (ts acc)) := own_below hown.out bel1
      have hbz1 := bel1'.size
      go_wp2_with fail
      refine (CI.out _).mono ?_
      rintro _ W1 ⟨rfl, hW1⟩
      subst hW1
      by_cases ho : okS st = true
      · simp only [ho, ite_true] at HS2
        rw [ho]
        obtain ⟨v', w2, hr2, hown2, bel2⟩ := run_appS W1 w.heap.size acc.length u5 acc st hown1.out (by omega) hbz1
        have hown2' : Hid (w2.ownsRow w.heap.size 9 1 v' (acc.length + 1) (ts (acc ++ [st]))) := hown2
        clear hown2
        have hln : (ofL st).size = st.length := ofL_size st
        have hk5 : IntKind.i64.wrap ((k : Int) + 1 + (st.length : Int)) = (k : Int) + 1 + (st.length : Int) := by rw [IntKind.wrap_i64]; omega
        go_wp2_with fail
        refine ⟨⟨k + 1 + st.length, f, acc ++ [st], by simp, by omega, by omega, by simp; omega, ?_, ?_, bel1'.trans bel2⟩, ?_⟩
        · rw [List.length_append]; exact hown2'
        · show _ = _
          rw [HS2.out, HR.out]
        · simp only [intOf]; omega
      · have ho' : okS st = false := by simpa using ho
        rw [ho']
        rw [ho'] at HS2
        go_wp2_with fail
        go_ret3
        refine ⟨bel1', ?_⟩
        rw [HS2.out]
        simp
    · have hke : k = s.size := by omega
      subst hke
      go_wp2_with fail
      go_ret3
      refine ⟨bel, ?_⟩
      have h0 : s.data.toList.drop s.size = [] := List.drop_eq_nil_of_le (by rw [HSZ.out]; omega)
      rw [← HS.out, h0, spl_nil]
      exact ⟨u5, rfl, hown.out⟩
end Go.Proofs.YtmfkhpledgnipaaDoor
