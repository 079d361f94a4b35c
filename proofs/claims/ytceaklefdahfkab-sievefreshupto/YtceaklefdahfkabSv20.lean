/- The sieve: New. -/
import Derived.Test.YtceaklefdahfkabSv17
import Derived.Test.YtceaklefdahfkabSv18
namespace Go.Proofs.Ytceaklefdahfkab
open Go.RowKit
/-- The numbers of texts, in the order of these. -/
structure Srt (l : List ByteArray) (ns : List Nat) : Prop where
  perm : ns.Perm (List.range l.length)
  up : ∀ i j, i < j → j < l.length → ¬ tl (txt l (ns.getD j 0)) < tl (txt l (ns.getD i 0))
theorem Srt.len {l : List ByteArray} {ns : List Nat} (h : Srt l ns) : ns.length = l.length := by have := h.perm.length_eq; simpa using this
theorem Srt.lt {l : List ByteArray} {ns : List Nat} (h : Srt l ns) (i : Nat) (hi : i < l.length) : ns.getD i 0 < l.length := by
  have hl := h.len
  have : ns.getD i 0 = ns[i]'(by omega) := by simp [List.getD, hl, hi]
  rw [this]
  exact List.mem_range.1 (h.perm.mem_iff.1 (List.getElem_mem _))
/-- What byText hands out. -/
def ByT (l : List ByteArray) (w : World) (e : Ending) (w' : World) : Prop := ∃ g ns, e = .returned (.slice (some ⟨g, 0, none⟩) l.length l.length) ∧ Srt l ns ∧ Si .i64 (.slice (some ⟨g, 0, none⟩) l.length l.length) ns w' ∧ Below w.heap.size w w'
/-- Texts as cells. -/
def sk (l : List ByteArray) : Array Value := (l.map Value.string).toArray
theorem sk_get (l : List ByteArray) (j : Nat) (h : j < l.length) : (sk l)[j]? = some (.string (txt l j)) := by simp [sk, txt, List.getD, h]
theorem sk_set (l : List ByteArray) (j : Nat) (b : ByteArray) : (sk l).setIfInBounds j (.string b) = sk (l.set j b) := by simp [sk, List.map_set]
theorem txt_set (l : List ByteArray) (i j : Nat) (b : ByteArray) (hi : i < l.length) : txt (l.set i b) j = if i = j then b else txt l j := by
  unfold txt
  by_cases h : i = j
  · subst h; rw [if_pos rfl]; simp [List.getD, hi]
  · rw [if_neg h, List.getD, List.getElem?_set_ne h]; rfl
theorem tl_inj {a b : ByteArray} (h : tl a = tl b) : a = b := by
  unfold tl at h
  have h2 : a.data.toList = b.data.toList := by
    refine List.map_inj_right (fun x y hxy => ?_) |>.1 h
    exact UInt8.toNat_inj.1 hxy
  cases a; cases b
  congr 1
  exact Array.ext' h2
theorem str_off {a b : ByteArray} (h : ¬ a = b) : (a.toList == b.toList) = false := by
  rw [beq_eq_false_iff_ne]
  intro h2
  rw [ByteArray.toList_eq, ByteArray.toList_eq] at h2
  apply h
  cases a; cases b
  congr 1
  exact Array.ext' h2
/-- The words, sorted. -/
def wdS (l : List ByteArray) (ns : List Nat) : List ByteArray := ns.map (txt l)
theorem wdS_len {l : List ByteArray} {ns : List Nat} (h : Srt l ns) : (wdS l ns).length = l.length := by rw [wdS, List.length_map, h.len]
theorem wdS_get {l : List ByteArray} {ns : List Nat} (h : Srt l ns) (i : Nat) (hi : i < l.length) : txt (wdS l ns) i = txt l (ns.getD i 0) := by
  have hl := h.len
  simp [wdS, txt, List.getD, hl, hi]
/-- Made anew: words of all. -/
def NewOk (l : List ByteArray) (ns : List Nat) : Prop := Srt l ns ∧ ∀ i, i + 1 < l.length → tl (txt l (ns.getD i 0)) ≠ tl (txt l (ns.getD (i + 1) 0))
def NewP (l : List ByteArray) (e : Ending) (w' : World) : Prop :=
  (4096 < l.length ∧ e = .returned (.tuple #[.pointer none, .int .i64 1])) ∨
  (l.length ≤ 4096 ∧ (wdO l).2 = false ∧ e = .returned (.tuple #[.pointer none, .int .i64 50])) ∨
  (l.length ≤ 4096 ∧ (wdO l).2 = true ∧ ∃ ns, Srt l ns ∧ (∃ i, i + 1 < l.length ∧ tl (txt l (ns.getD i 0)) = tl (txt l (ns.getD (i + 1) 0))) ∧ e = .returned (.tuple #[.pointer none, .int .i64 51])) ∨
  (l.length ≤ 4096 ∧ (wdO l).2 = true ∧ ∃ ns, NewOk l ns ∧ ∃ g gt, e = .returned (.tuple #[.pointer (some ⟨g, 0, none⟩), .int .i64 0]) ∧ Sve g gt w' ∧ TabK w'.heap.size gt (ftT ((wdS l ns).map tl) ns (wdO l).1) w')
theorem wdO_all {l : List ByteArray} (h : (wdO l).2 = true) : (wdO l).1 ≤ 64 ∧ ∀ s ∈ l, s.size = (wdO l).1 := by
  cases l with
  | nil => exact ⟨by simp [wdO], by simp⟩
  | cons s r =>
    have h2 : (decide (0 < s.size) && (decide (s.size ≤ 64) && allW s.size (s :: r))) = true := h
    simp only [Bool.and_eq_true, decide_eq_true_iff] at h2
    refine ⟨h2.2.1, fun t ht => ?_⟩
    have := List.all_eq_true.1 h2.2.2 t ht
    have h3 : t.size = s.size := by simpa using this
    exact h3
attribute [local go_sem ↓] toMkS
set_option maxRecDepth 100000 in
set_option maxHeartbeats 1600000 in
theorem new_any (l : List ByteArray) (hl : l.length ≤ 1099511627776) (hz : ∀ s ∈ l, s.size ≤ 1099511627776) (BT : ∀ (v : Value) (w : World), l.length ≤ 4096 → St v l w → Calls Try.prog 46 #[v] w (ByT l w)) (v : Value) (w : World) (hv : St v l w) :
    Calls Try.prog 10 #[v] w fun e w' => NewP l e w' ∧ Below w.heap.size w w' := by
  have CW : Hid _ := widthOf_any l hl hz v w hv
  have HV : Hid (St v l w) := hv
  obtain ⟨o, c, hvo, _⟩ := hv.form
  have CB : Hid (l.length ≤ 4096 → Calls Try.prog 46 #[v] w (ByT l w)) := fun h => BT v w h hv
  have WA := @wdO_all l
  subst hvo
  clear hv BT
  by_cases h1 : 4096 < l.length
  · have h1' : (4096 : Int) < (l.length : Int) := by omega
    go_enter Try.func10, Try.ntmps10
    go_wp2
    go_ret2
    exact ⟨.inl ⟨h1, rfl⟩, Below.refl _ _⟩
  have h1' : ¬ ((4096 : Int) < (l.length : Int)) := by omega
  have h1n : l.length ≤ 4096 := by omega
  cases hw : (wdO l).2 with
  | false =>
    rw [hw] at CW
    have HN : Hid (NewP l (.returned (.tuple #[.pointer none, .int .i64 50])) w) := .inr (.inl ⟨h1n, hw, rfl⟩)
    clear hw WA
    go_enter Try.func10, Try.ntmps10
    go_wp2_with fail
    refine Calls.mono CW.out ?_
    rintro e w' ⟨rfl, rfl⟩
    go_wp2
    go_ret2
    exact ⟨HN.out, Below.refl _ _⟩
  | true =>
    rw [hw] at CW
    have HW : Hid ((wdO l).2 = true) := hw
    have HA : Hid ((wdO l).1 ≤ 64 ∧ ∀ s ∈ l, s.size = (wdO l).1) := WA hw
    clear hw WA
    obtain ⟨m, hm⟩ : ∃ m, m = (wdO l).1 := ⟨_, rfl⟩
    rw [← hm] at CW HA
    have HM : Hid (m = (wdO l).1) := hm
    clear hm
    have CB2 : Hid _ := CB.out h1n
    clear CB
    go_enter Try.func10, Try.ntmps10
    go_wp2_with fail
    refine Calls.mono CW.out ?_
    rintro e w ⟨rfl, rfl⟩
    go_wp2_with fail
    refine Calls.mono CB2.out ?_
    rintro e w1 ⟨gn, ns, rfl, HSn, HNn, HB1⟩
    obtain ⟨W0, r0, R0, B0⟩ := run_mkS w1 l.length (by omega)
    have hgn : gn < w1.heap.size := HNn.lt gn rfl
    have HV1 : Hid (St (Value.slice o l.length c) l w1) := HV.out.below HB1
    have HNS : Hid (Si IntKind.i64 (Value.slice (some { block := gn, off := 0 }) l.length l.length) ns w1) := HNn
    have HSR : Hid (Srt l ns) := HSn
    have HBL : Hid (Below w.heap.size w w1) := HB1
    have HR0 : Hid (W0.heap[w1.heap.size]? = some (.cells (sk (List.replicate l.length ⟨#[]⟩)) 9 (0, 0))) := by
      show _ = _
      rw [R0]; simp [sk]
    have HB0 : Hid (Below w1.heap.size w1 W0) := B0
    obtain ⟨gw, hgw⟩ : ∃ gw, gw = w1.heap.size := ⟨_, rfl⟩
    rw [← hgw] at r0 HR0 HB0 hgn
    have HGW : Hid (gw = w1.heap.size) := hgw
    clear CW CB2 HSn HNn HB1 B0 R0 hgw HV
    go_wp2_with fail
    go_loopw [27] (fun iv wr => ∃ (i : Nat) (ws : List ByteArray), iv = .int .i64 (i : Int) ∧ i ≤ l.length ∧ Hid (ws.length = l.length) ∧ Hid (∀ j, j < i → txt ws j = txt l (ns.getD j 0)) ∧ Hid (∀ j, j + 1 < i → tl (txt l (ns.getD j 0)) ≠ tl (txt l (ns.getD (j + 1) 0))) ∧ Hid (wr.heap[gw]? = some (.cells (sk ws) 9 (0, 0))) ∧ Hid (Below gw w1 wr)) (fun iv _ => l.length - (intOf iv).toNat)
    case atStart => exact ⟨0, _, rfl, by omega, List.length_replicate, fun j hj => by omega, fun j hj => by omega, HR0, HB0⟩
    case round =>
      clear HR0 HB0
      obtain ⟨i, ws, rfl, hi, HWL, HWG, HNE, HRW, HB⟩ := hrel
      by_cases hlt : i < l.length
      · have hi0 : (0 : Int) ≤ (i : Int) := by omega
        have hi1 : (i : Int) < (l.length : Int) := by omega
        have hnl : ns.length = l.length := HSR.out.len
        have hnlt := HSR.out.lt i hlt
        have cn : wr.cell? ⟨gn, i, none⟩ = some (.int .i64 ((ns.getD i 0 : Nat) : Int)) := by
          have := Si.at HNS.out i (by omega)
          rw [Nat.zero_add] at this
          exact (World.cell?_of_block (w := w1) (HB.out.block gn hgn)).trans this
        obtain ⟨q, hq⟩ : ∃ q, q = ns.getD i 0 := ⟨_, rfl⟩
        rw [← hq] at cn hnlt
        have hq0 : (0 : Int) ≤ (q : Int) := by omega
        have hq1 : (q : Int) < (l.length : Int) := by omega
        obtain ⟨o', c', ho', _, _, hvf⟩ := HV1.out.form
        obtain ⟨b, off, ho, hb, hc⟩ := hvf (by omega)
        cases ho'
        subst ho
        have ca : wr.cell? ⟨b, off + q, none⟩ = some (.string (txt l q)) := (World.cell?_of_block (w := w1) (HB.out.block b (by rw [HGW.out]; exact hb))).trans (hc q _ (txt_get hnlt))
        have hwl := HWL.out
        have cw : wr.cell? ⟨gw, i, none⟩ = some (.string (txt ws i)) := (cell_of_row wr _ _ _ _ _ HRW.out).trans (sk_get ws i (by omega))
        have fw : wr.frozen? ⟨gw, i, none⟩ = false := frozen_of_row wr _ _ _ _ HRW.out
        obtain ⟨W2, hW2⟩ : ∃ W2, wr.setCell ⟨gw, i, none⟩ (.string (txt l q)) = W2 := ⟨_, rfl⟩
        have R2 : W2.heap[gw]? = some (.cells (sk (ws.set i (txt l q))) 9 (0, 0)) := by rw [← hW2, ← sk_set]; exact heap_setCell_same _ _ _ _ _ _ HRW.out
        have HR2 : Hid _ := R2
        have HB2 : Hid (Below gw w1 W2) := by rw [← hW2]; exact HB.out.setCell (Nat.le_refl _) _
        have HL2 : Hid ((ws.set i (txt l q)).length = l.length) := by show _ = _; rw [List.length_set]; exact hwl
        have HG2 : Hid (∀ j, j < i + 1 → txt (ws.set i (txt l q)) j = txt l (ns.getD j 0)) := fun j hj => by
          rw [txt_set _ _ _ _ (by omega)]
          by_cases h : i = j
          · rw [if_pos h, hq, h]
          · rw [if_neg h]; exact HWG.out j (by omega)
        have c2 : W2.cell? ⟨gw, i, none⟩ = some (.string (txt l q)) := by
          rw [cell_of_row W2 _ _ _ _ _ R2, sk_get _ _ (by rw [List.length_set]; omega), txt_set _ _ _ _ (by omega), if_pos rfl]
        rcases Nat.eq_zero_or_pos i with h0 | h0
        · subst h0
          have HN2 : Hid (∀ j, j + 1 < 0 + 1 → tl (txt l (ns.getD j 0)) ≠ tl (txt l (ns.getD (j + 1) 0))) := fun j hj => by omega
          clear hc hvf hq R2 hnl HWG HNE HRW HB hwl
          revert HR2 HL2 HG2
          generalize ws.set 0 (txt l q) = ws2
          intro HR2 HL2 HG2
          generalize txt l q = a at *
          go_wp2_with fail
          go_quiet (fail)
          go_wp2
          exact ⟨⟨1, ws2, by rfl, by omega, HL2, HG2, HN2, HR2, Below.drewN' HB2.out nq⟩, by simp only [intOf]; omega⟩
        · obtain ⟨i', hi'⟩ : ∃ i', i = i' + 1 := ⟨i - 1, by omega⟩
          have e1 : IntKind.i64.wrap ((i : Int) - 1) = (i' : Int) := by rw [wi _ (by unfold I64; omega)]; omega
          have hp0 : (0 : Int) ≤ (i' : Int) := by omega
          have hp1 : (i' : Int) < (l.length : Int) := by omega
          have c3 : W2.cell? ⟨gw, i', none⟩ = some (.string (txt l (ns.getD i' 0))) := by
            rw [cell_of_row W2 _ _ _ _ _ R2, sk_get _ _ (by rw [List.length_set]; omega), txt_set _ _ _ _ (by omega), if_neg (by omega), HWG.out i' (by omega)]
          have hgt : (0 : Int) < (i : Int) := by omega
          have hgd : decide (0 < i) = true := decide_eq_true h0
          by_cases hab : txt l q = txt l (ns.getD i' 0)
          · have HTW : Hid (∃ i, i + 1 < l.length ∧ tl (txt l (ns.getD i 0)) = tl (txt l (ns.getD (i + 1) 0))) := ⟨i', by omega, by rw [← hi', ← hq, hab]⟩
            rw [← hab] at c3
            clear hc hvf hq R2 hnl HWG HNE HRW HB hwl HG2 HR2 HL2 hab
            have HB3 : Hid (Below w.heap.size w W2) := HBL.out.trans (HB2.out.mono (by rw [HGW.out]; exact HBL.out.size))
            generalize txt l q = a at *
            clear hi'
            go_wp2_with fail
            go_quiet (fail)
            go_wp2
            go_ret2
            exact ⟨.inr (.inr (.inl ⟨h1n, HW.out, ns, HSR.out, HTW.out, rfl⟩)), Below.drewN' HB3.out nq⟩
          · have HN2 : Hid (∀ j, j + 1 < i + 1 → tl (txt l (ns.getD j 0)) ≠ tl (txt l (ns.getD (j + 1) 0))) := fun j hj => by
              by_cases h : j = i'
              · subst h
                rw [← hi', ← hq]; exact fun h => hab (tl_inj h).symm
              · exact HNE.out j (by omega)
            have hab' : ((txt l q).toList == (txt l (ns.getD i' 0)).toList) = false := str_off hab
            clear hab
            clear hc hvf hq R2 hnl HWG HNE HRW HB hwl
            revert HR2 HL2 HG2
            generalize ws.set i (txt l q) = ws2
            intro HR2 HL2 HG2
            generalize txt l q = a at *
            generalize txt l (ns.getD i' 0) = b' at *
            clear hi'
            go_wp2_with fail
            go_quiet (fail)
            go_wp2
            exact ⟨⟨i + 1, ws2, by rfl, by omega, HL2, HG2, HN2, HR2, Below.drewN' HB2.out nq⟩, by simp only [intOf]; omega⟩
      · have hi1 : ¬ ((i : Int) < (l.length : Int)) := by omega
        have hie : i = l.length := by omega
        have hwl := HWL.out
        have hws : ws = wdS l ns := by
          apply List.ext_getElem
          · rw [wdS_len HSR.out]; exact hwl
          · intro j h1 h2
            have e1 : ws[j] = txt ws j := by simp [txt, List.getD, h1]
            have e2 : (wdS l ns)[j] = txt (wdS l ns) j := by simp [txt, List.getD, h2]
            rw [e1, e2, wdS_get HSR.out j (by omega), HWG.out j (by omega)]
        have hwd := wdS_len HSR.out
        have HOK : Hid (NewOk l ns) := ⟨HSR.out, fun j hj => HNE.out j (by omega)⟩
        have hst : St (.slice (some ⟨gw, 0, none⟩) l.length l.length) (wdS l ns) wr := by
          refine .inr ⟨gw, 0, l.length, by rw [hwd], by omega, by unfold maxLen; omega, (Array.getElem?_eq_some_iff.1 HRW.out).1, fun j s hj => ?_⟩
          have hj2 : j < (wdS l ns).length := (List.getElem?_eq_some_iff.1 hj).1
          rw [Nat.zero_add, cell_of_row wr _ _ _ _ _ HRW.out, hws, sk_get _ _ hj2, ← txt_get hj2 |>.symm.trans hj |> Option.some.inj]
        have hsi : Si .i64 (.slice (some ⟨gn, 0, none⟩) l.length l.length) ns wr := HNS.out.keep (by have := HB.out.size; exact this) fun j hj _ => HB.out.block j (by cases hj; exact hgn)
        have CT : Hid _ := newTable_any (wdS l ns) (by omega) m HA.out.1 (fun s hs => by
          obtain ⟨k, hk, rfl⟩ := List.mem_map.1 hs
          have hk2 := List.mem_range.1 (HSR.out.perm.mem_iff.1 hk)
          exact HA.out.2 _ (List.mem_of_getElem? (txt_get hk2))) ns (by rw [HSR.out.len]; exact h1n) _ _ wr hst hsi
        have HB4 : Hid (Below w.heap.size w wr) := HBL.out.trans (HB.out.mono (by rw [HGW.out]; exact HBL.out.size))
        have HT : Hid (∀ W, TabK W.heap.size wr.heap.size (ftT ((wdS l ns).map tl) ns m) W → Below wr.heap.size wr W → NewP l (.returned (.tuple #[.pointer (some ⟨W.heap.size, 0, none⟩), .int .i64 0])) (W.alloc (.cells #[.pointer (some ⟨wr.heap.size, 0, none⟩)] 86)) ∧ Below w.heap.size w (W.alloc (.cells #[.pointer (some ⟨wr.heap.size, 0, none⟩)] 86))) := fun W h1 h2 => by
          have hB : Below w.heap.size w W := HB4.out.trans (h2.mono HB4.out.size)
          refine ⟨.inr (.inr (.inr ⟨h1n, HW.out, ns, HOK.out, _, _, rfl, heap_alloc_new _ _, ?_⟩)), hB.alloc hB.size _⟩
          rw [← HM.out]
          have h3 := h1.mono (K' := (W.alloc (.cells #[.pointer (some ⟨wr.heap.size, 0, none⟩)] 86)).heap.size) (by simp)
          exact h3.keep (by simp) fun j _ hj => heap_alloc_old _ _ (h := hj)
        clear hst hsi hws HWG HNE HRW HB hie HOK HBL
        go_wp2_with fail
        refine Calls.mono CT.out ?_
        rintro e W ⟨rfl, h2, h3⟩
        have HE : Hid _ := HT.out W h2 h3
        clear h2 h3
        go_wp2
        go_ret2
        exact HE.out
end Go.Proofs.Ytceaklefdahfkab
