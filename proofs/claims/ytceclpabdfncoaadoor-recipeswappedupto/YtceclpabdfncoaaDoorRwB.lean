/- The laws' sorted: some of the texts. -/
import Derived.Test.YtceclpabdfncoaaDoorRwA
namespace Go.Proofs.YtceclpabdfncoaaDoor.Re
open Go.RowKit
set_option maxRecDepth 100000 in
/-- A list cut from below. -/
theorem run_slLo (w : World) (oa : Option Addr) (n c k : Nat) (l : List S) (h : Ls w (.slice oa n c) 1 (l.map sR)) (hn : l.length = n) (hk : k ≤ n) :
    ∃ oa' c', (slS (.slice oa n c) (some (.int .i64 (k : Int))) none none).run Tryd.prog w = .ok (.slice oa' (n - k) c') w ∧ Ls w (.slice oa' (n - k) c') 1 ((l.drop k).map sR) := by
  have := run_slice_l (P := Tryd.prog) w 22 oa n c Tryd.underlying22 .i64 (k : Int) (by omega) (by omega)
  obtain ⟨i0, hi0, -, hz, -⟩ := info_parts infoS
  have el : Tryd.prog.elem 22 = 9 := by kernel_rfl
  have hs : (sizeOf 9).run Tryd.prog w = .ok i0.size w := by simp [sizeOf, typeInfo, hi0]
  obtain ⟨oa0, c0, e, h1, h2, h3, h4, h5⟩ := h
  injection e with e1 e2 e3
  subst e1 e3
  rw [List.length_map] at h2 e2
  refine ⟨if c = k then oa else oa.map (·.add (k * 1)), c - k, ?_, ?_⟩
  · unfold slS
    rw [this, el, hs, hz]
    simp only [Result.andThen, sliced, Int.toNat_natCast]
  · refine ⟨_, _, by rw [List.length_map, List.length_drop, hn], fun q => ?_, by rw [List.length_map, List.length_drop]; omega, by omega, rs_s _, fun i x hx => ?_⟩
    · by_cases e : c = k
      · omega
      · rw [if_neg e] at q
        cases oa with
        | none => have := h1 rfl; omega
        | some a => cases q
    · have hx' : (l.map sR)[k + i]? = some x := by
        rw [← hx, List.getElem?_map, List.getElem?_map, List.getElem?_drop]
      obtain ⟨g, o, q1, q2, q3⟩ := h5 _ x hx'
      have hi : k + i < l.length := by have := (List.getElem?_eq_some_iff.1 hx').1; rwa [List.length_map] at this
      refine ⟨g, o + k, ?_, q2, ?_⟩
      · rw [if_neg (by omega), q1]
        simp [Addr.add_mid]
      · rw [show o + k + i * 1 = o + (k + i) * 1 by omega]
        exact q3
theorem ApP.bel {base e sz B : Nat} {X w w' : World} {v v' : Value} {l l' : List (Array Value)} (h : ApP base e sz w v l' v' w') (ho : Ol base e sz w v l) (hb : Below B X w) (hB : B ≤ base) (hX : B ≤ X.heap.size) : Below B X w' :=
  ⟨h.2.1.os.trans hb.os, h.2.1.tape.trans hb.tape, h.2.1.output.trans hb.output, Nat.le_trans hb.size h.2.1.size, fun j hj => (h.2.1.block j (Nat.lt_of_lt_of_le hj (Nat.le_trans hX hb.size)) (fun q => by have := (ho.tag q.symm).1; omega)).trans (hb.block j hj)⟩
/-- What sorted leaves: a list of one's own, of texts that were there. -/
def SoP (W : World) (l : List S) (e : Ending) (w' : World) : Prop := ∃ (a : Option Addr) (n c : Nat) (O : List S), e = .returned (.slice a n c) ∧ n = O.length ∧ Ol W.heap.size 9 1 w' (.slice a n c) (O.map sR) ∧ O.length ≤ l.length ∧ (∀ x ∈ O, x ∈ l) ∧ Below W.heap.size W w'
structure Sw (W : World) (l : List S) (a : Option Addr) (n c i : Nat) (O : List S) (wr : World) : Prop where
  len : n = O.length
  own : Ol W.heap.size 9 1 wr (.slice a n c) (O.map sR)
  le : O.length ≤ i
  mem : ∀ x ∈ O, x ∈ l
  bel : Below W.heap.size W wr
theorem Sw.below {W : World} {l : List S} {a : Option Addr} {n c i : Nat} {O : List S} {wr w' : World} (h : Sw W l a n c i O wr) (hb : Below wr.heap.size wr w') : Sw W l a n c i O w' := ⟨h.len, h.own.below hb, h.le, h.mem, h.bel.trans (hb.mono h.bel.size)⟩
/-- A text is put in at a place. -/
theorem ins_run {W Y : World} {l O : List S} {a : Option Addr} {n c i k : Nat} {x : S} (sw : Sw W l a n c i O Y) (hk : k ≤ n) (hx : x ∈ l) (hi : i ≤ 10000) :
    ∃ a1 n1 c1 w1 a2 n2 c2 w2 oa' c' a3 n3 c3 w3, (slS (.slice a n c) none (some (.int .i64 (k : Int))) none).run Tryd.prog Y = .ok (.slice a k c) Y ∧ (apS 22 #[.slice none 0 0, .slice a k c]).run Tryd.prog Y = .ok (.slice a1 n1 c1) w1 ∧ Below W.heap.size W w1 ∧ (apS 22 #[.slice a1 n1 c1, .slice (some ⟨w1.heap.size, 0, none⟩) 1 1]).run Tryd.prog (w1.alloc (.cells #[.string x] 9)) = .ok (.slice a2 n2 c2) w2 ∧ (slS (.slice a n c) (some (.int .i64 (k : Int))) none none).run Tryd.prog w2 = .ok (.slice oa' (n - k) c') w2 ∧ (apS 22 #[.slice a2 n2 c2, .slice oa' (n - k) c']).run Tryd.prog w2 = .ok (.slice a3 n3 c3) w3 ∧ Sw W l a3 n3 c3 (i + 1) (O.take k ++ [x] ++ O.drop k) w3 := by
  have hlen := sw.len
  have hle := sw.le
  have hcap : n ≤ c := by
    obtain ⟨_, _, e, q⟩ := sw.own.form
    cases e
    rw [List.length_map] at q
    omega
  have ls := sw.own.ls
  have lcut := ls.cut k (by rw [List.length_map]; omega)
  rw [← List.map_take] at lcut
  have hWY : W.heap.size ≤ Y.heap.size := sw.bel.size
  obtain ⟨v1, w1, r1, p1⟩ := run_apS Y Y.heap.size (.slice none 0 0) (.slice a k c) [] _ (ol_nil _ _ _ _) lcut (by unfold MX; simp; omega) (Nat.le_refl _)
  rw [List.nil_append] at p1
  obtain ⟨a1, c1, e1, -⟩ := p1.1.form
  subst e1
  have bY1 : Below Y.heap.size Y w1 := p1.bel (ol_nil _ _ _ _) (Below.refl _ _) (Nat.le_refl _) (Nat.le_refl _)
  have hA : Ol Y.heap.size 9 1 (w1.alloc (.cells #[.string x] 9)) (.slice a1 ((O.take k).map sR).length c1) ((O.take k).map sR) := ⟨p1.1.1.alloc _, p1.1.2⟩
  have bYA : Below Y.heap.size Y (w1.alloc (.cells #[.string x] 9)) := bY1.alloc bY1.size _
  obtain ⟨v2, w2, r2, p2⟩ := run_apS (w1.alloc (.cells #[.string x] 9)) Y.heap.size (.slice a1 ((O.take k).map sR).length c1) (.slice (some ⟨w1.heap.size, 0, none⟩) 1 1) _ [sR x] hA (ls_one w1 (sR x) 9 1 rfl (by simp [sR, Value.oneCell'])) (by unfold MX; simp; omega) (by have := bYA.size; omega)
  obtain ⟨a2, c2, e2, -⟩ := p2.1.form
  subst e2
  have bY2 : Below Y.heap.size Y w2 := p2.bel hA bYA (Nat.le_refl _) (Nat.le_refl _)
  obtain ⟨oa', c', r3, l3⟩ := run_slLo w2 a n c k O (ls.below bY2) hlen.symm hk
  obtain ⟨v3, w3, r4, p4⟩ := run_apS w2 Y.heap.size _ (.slice oa' (n - k) c') _ _ p2.1 l3 (by unfold MX; simp; omega) bY2.size
  obtain ⟨a3, c3, e3, -⟩ := p4.1.form
  subst e3
  have bY3 : Below Y.heap.size Y w3 := p4.bel p2.1 bY2 (Nat.le_refl _) (Nat.le_refl _)
  have ef : ((O.take k).map sR ++ [sR x] ++ (O.drop k).map sR) = (O.take k ++ [x] ++ O.drop k).map sR := by simp
  refine ⟨a1, _, c1, w1, a2, _, c2, w2, oa', c', a3, _, c3, w3, run_slS Y a n c k (by omega), r1, sw.bel.trans (bY1.mono hWY), r2, r3, r4, ?_, ?_, ?_, ?_, ?_⟩
  · rw [ef, List.length_map]
  · have := p4.1.mono hWY
    rw [ef] at this ⊢
    exact this
  · simp
    omega
  · intro z hz
    simp only [List.mem_append, List.mem_singleton] at hz
    rcases hz with (q | q) | q
    · exact sw.mem z (List.mem_of_mem_take q)
    · rw [q]; exact hx
    · exact sw.mem z (List.mem_of_mem_drop q)
  · exact sw.bel.trans (bY3.mono hWY)
section
attribute [local go_sem ↓] toApS toSlS
set_option maxRecDepth 100000 in
set_option maxHeartbeats 3200000 in
theorem sorted_any (W : World) (lv : Value) (l : List S) (hl : Ls W lv 1 (l.map sR)) (hn : l.length ≤ 10000) : Calls Tryd.prog 9 #[lv] W (SoP W l) := by
  obtain ⟨ol, cl, rfl⟩ := hl.form
  obtain ⟨ll, hll⟩ : ∃ k, l.length = k := ⟨_, rfl⟩
  rw [List.length_map, hll] at hl ⊢
  have HL : Hid (Ls W (.slice ol ll cl) 1 (l.map sR) ∧ l.length = ll ∧ ll ≤ 10000) := ⟨hl, hll, by omega⟩
  clear hl hll hn
  go_enter Tryd.func9, Tryd.ntmps9
  go_wp2_with fail
  go_loopw [3, 4, 5, 6] (fun ov iv _ _ wr => ∃ (a : Option Addr) (n c i : Nat), ov = .slice a n c ∧ iv = .int .i64 (i : Int) ∧ Hid (∃ O, i ≤ ll ∧ Sw W l a n c i O wr)) (fun _ iv _ _ _ => ll + 1 - (intOf iv).toNat)
  case atStart => exact ⟨none, 0, 0, 0, rfl, rfl, [], Nat.zero_le _, rfl, ol_nil _ _ _ _, Nat.zero_le _, (fun x hx => by cases hx), Below.refl _ _⟩
  case round =>
    obtain ⟨a, n, c, i, rfl, rfl, HI⟩ := hrel
    by_cases hi : i < ll
    · have hi1 : (i : Int) < (ll : Int) := by omega
      have hi0 : (0 : Int) ≤ (i : Int) := by omega
      obtain ⟨x, hx⟩ : ∃ x, l[i]? = some x := ⟨_, List.getElem?_eq_getElem (by have := HL.out.2.1; omega)⟩
      obtain ⟨gx, ox, rfl, hcx⟩ := HL.out.1.txt hx
      have HX : Hid (i < ll ∧ l[i]? = some x ∧ ∀ w, Below W.heap.size W w → w.cell? ⟨gx, ox + i, none⟩ = some (.string x)) := ⟨hi, hx, hcx⟩
      have wi : IntKind.i64.wrap ((i : Int) + 1) = (i : Int) + 1 := by rw [IntKind.wrap_i64]; have := HL.out.2.2; omega
      clear hi hx hcx
      go_wp2_with fail
      go_loopw [5] (fun kv wr => ∃ (k : Nat), kv = .int .i64 (k : Int) ∧ Hid (∃ O, k ≤ n ∧ Sw W l a n c i O wr)) (fun kv _ => n + 1 - (intOf kv).toNat)
      case atStart => obtain ⟨O, _, q⟩ := HI.out; exact ⟨0, rfl, O, Nat.zero_le _, q⟩
      case round =>
        obtain ⟨k, rfl, HJ⟩ := hrel
        obtain ⟨O, hkn, sw⟩ := HJ.out
        have cx : ∀ j, (wr.drewN j).cell? ⟨gx, ox + i, none⟩ = some (.string x) := fun j => HX.out.2.2 _ (sw.below (bel_dn wr j)).bel
        by_cases hk : k < n
        · obtain ⟨y, hy⟩ : ∃ y, O[k]? = some y := ⟨_, List.getElem?_eq_getElem (by have := sw.len; omega)⟩
          have hk1 : (k : Int) < (n : Int) := by omega
          have hk0 : (0 : Int) ≤ (k : Int) := by omega
          have hd : decide ((k : Int) < (n : Int)) = true := decide_eq_true hk1
          obtain ⟨go, rfl⟩ := sw.own.own (by omega)
          have cy : ∀ j, (wr.drewN j).cell? ⟨go, k, none⟩ = some (.string y) := fun j => by
            have := (sw.below (bel_dn wr j)).own.cel k 0 (sR y) (.string y) (by rw [List.getElem?_map, hy]; rfl) rfl
            simpa using this
          have wk : IntKind.i64.wrap ((k : Int) + 1) = (k : Int) + 1 := by rw [IntKind.wrap_i64]; have := sw.len; have := sw.le; have := HX.out.1; have := HL.out.2.2; omega
          have HSW : Hid (k < n ∧ Sw W l (some ⟨go, 0, none⟩) n c i O wr) := ⟨hk, sw⟩
          clear hk hkn sw hy
          cases hb : Op.bytesLess (ByteArray.toList y) (ByteArray.toList x) with
          | true =>
            go_wp2_with fail
            go_quiet (fail)
            go_wp2_with fail
            go_roundw
            case rel => exact ⟨k + 1, by go_num, O, HSW.out.1, HSW.out.2.below (bel_dn _ _)⟩
            case measure => have := HSW.out.1; simp [intOf]; omega
          | false =>
            by_cases he : y = x
            · subst he
              go_wp2_with fail
              go_quiet (fail)
              rename Nat => nq0
              have HE : Hid (∀ j, ∃ O', i + 1 ≤ ll ∧ Sw W l (some ⟨go, 0, none⟩) n c (i + 1) O' (wr.drewN j)) := fun j => ⟨O, HX.out.1, let s := HSW.out.2.below (bel_dn wr j); ⟨s.len, s.own, by have := s.le; omega, s.mem, s.bel⟩⟩
              go_wp2_with fail
              go_quiet (fail)
              go_wp2_with fail
              go_roundw
              case rel => exact ⟨_, _, _, i + 1, rfl, by go_num, HE.out _⟩
              case measure => have := HX.out.1; simp [intOf]; omega
            · have hne := tl_ne he
              have HK : Hid (k ≤ n) := by have := HSW.out.1; show k ≤ n; omega
              clear he
              go_wp2_with fail
              go_quiet (fail)
              rename Nat => nq0
              go_wp2_with fail
              go_quiet (fail)
              have SWY := HSW.out.2.below (bel_dn wr (nq0 + nq))
              obtain ⟨a1, n1, c1, w1, a2, n2, c2, w2, oa', c', a3, n3, c3, w3, r1, r2, bw1, r3, r4, r5, sw3⟩ := ins_run SWY HK.out (List.mem_of_getElem? HX.out.2.1) (by have := HX.out.1; have := HL.out.2.2; omega)
              have cx1 := HX.out.2.2 w1 bw1
              have HE : Hid (∃ O', i + 1 ≤ ll ∧ Sw W l a3 n3 c3 (i + 1) O' w3) := ⟨_, HX.out.1, sw3⟩
              clear sw3 bw1 SWY
              go_wp2_with fail
              go_roundw
              case rel => exact ⟨_, _, _, i + 1, rfl, by go_num, HE.out⟩
              case measure => have := HX.out.1; simp [intOf]; omega
        · obtain rfl : k = n := by omega
          have hk1 : ¬ ((k : Int) < (k : Int)) := by omega
          have hd : decide ((k : Int) < (k : Int)) = false := decide_eq_false hk1
          have HSW : Hid (Sw W l a k c i O wr) := sw
          have HK : Hid (k ≤ k) := Nat.le_refl k
          clear hk hkn sw
          go_wp2_with fail
          go_quiet (fail)
          rename Nat => nq0
          go_wp2_with fail
          go_quiet (fail)
          have SWY := HSW.out.below (bel_dn wr (nq0 + nq))
          obtain ⟨a1, n1, c1, w1, a2, n2, c2, w2, oa', c', a3, n3, c3, w3, r1, r2, bw1, r3, r4, r5, sw3⟩ := ins_run SWY HK.out (List.mem_of_getElem? HX.out.2.1) (by have := HX.out.1; have := HL.out.2.2; omega)
          rw [Nat.sub_self] at r4 r5
          have cx1 := HX.out.2.2 w1 bw1
          have HE : Hid (∃ O', i + 1 ≤ ll ∧ Sw W l a3 n3 c3 (i + 1) O' w3) := ⟨_, HX.out.1, sw3⟩
          clear sw3 bw1 SWY
          go_wp2_with fail
          go_roundw
          case rel => exact ⟨_, _, _, i + 1, rfl, by go_num, HE.out⟩
          case measure => have := HX.out.1; simp [intOf]; omega
    · have hi1 : ¬ ((i : Int) < (ll : Int)) := by omega
      obtain ⟨O, hil, sw⟩ := HI.out
      have HE : Hid (SoP W l (.returned (.slice a n c)) wr) := ⟨a, n, c, O, rfl, sw.len, sw.own, by have := sw.le; have := HL.out.2.1; omega, sw.mem, sw.bel⟩
      clear hi hil sw
      go_wp2_with fail
      go_ret
      exact HE.out
end
end Go.Proofs.YtceclpabdfncoaaDoor.Re
