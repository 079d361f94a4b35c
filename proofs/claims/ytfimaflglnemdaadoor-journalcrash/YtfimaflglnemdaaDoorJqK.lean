/- Several texts in one: JdI, JdH, JdK. -/
import Derived.Test.YtfimaflglnemdaaDoorJqI
import Derived.Test.YtfimaflglnemdaaDoorJqJ
import Derived.Deep.WholeRow
/- The journal's device: cut, where it ends. -/
namespace Go.Proofs.YtfimaflglnemdaaDoor.Dev
open Go.RowKit
/-- Where cutting comes to. -/
inductive Skp (Q : Nat → Prop) (W : World) (n : Nat) : Option Addr → Option Addr → Prop
  | nil : Skp Q W n none none
  | stop (g m : Nat) : Q g → W.cell? ⟨g, 1, none⟩ = some (.int .i64 (m : Int)) → m < n → Skp Q W n (some ⟨g, 0, none⟩) (some ⟨g, 0, none⟩)
  | step (g m : Nat) (ah q : Option Addr) : Q g → W.cell? ⟨g, 0, none⟩ = some (.pointer ah) → W.cell? ⟨g, 1, none⟩ = some (.int .i64 (m : Int)) → n ≤ m → Skp Q W n ah q → Skp Q W n (some ⟨g, 0, none⟩) q
theorem Skp.keep {Q : Nat → Prop} {W W' : World} {n : Nat} (hb : ∀ j, Q j → W'.heap[j]? = W.heap[j]?) {p q : Option Addr} (h : Skp Q W n p q) : Skp Q W' n p q := by
  induction h with
  | nil => exact .nil
  | stop g m h1 h2 h3 => exact .stop g m h1 ((World.cell?_of_block (w := W) (a := ⟨g, 1, none⟩) (hb g h1)).trans h2) h3
  | step g m ah q h1 h2 h3 h4 _ ih => exact .step g m ah q h1 ((World.cell?_of_block (w := W) (a := ⟨g, 0, none⟩) (hb g h1)).trans h2) ((World.cell?_of_block (w := W) (a := ⟨g, 1, none⟩) (hb g h1)).trans h3) h4 ih
theorem Skp.ofnil {Q : Nat → Prop} {W : World} {n : Nat} {q : Option Addr} (h : Skp Q W n none q) : q = none := by
  cases h
  rfl
theorem Skp.at {Q : Nat → Prop} {W : World} {n g m : Nat} {ah q : Option Addr} (h : Skp Q W n (some ⟨g, 0, none⟩) q) (c0 : W.cell? ⟨g, 0, none⟩ = some (.pointer ah)) (c1 : W.cell? ⟨g, 1, none⟩ = some (.int .i64 (m : Int))) : (n ≤ m → Skp Q W n ah q) ∧ (m < n → q = some ⟨g, 0, none⟩) := by
  cases h with
  | stop _ m' h1 h2 h3 =>
    have := Option.some.inj (c1.symm.trans h2)
    simp only [Value.int.injEq, true_and] at this
    exact ⟨fun h => by omega, fun _ => rfl⟩
  | step _ m' ah' _ h1 h2 h3 h4 h5 =>
    have := Option.some.inj (c1.symm.trans h3)
    simp only [Value.int.injEq, true_and] at this
    have e := Option.some.inj (c0.symm.trans h2)
    simp only [Value.pointer.injEq] at e
    subst e
    exact ⟨fun _ => h5, fun h => by omega⟩
theorem Ch.skp {Q : Nat → Prop} {W : World} {p : Option Addr} {d : List Nat} (h : Ch Q W p d) {n : Nat} (hn : n ≤ d.length) : ∃ q, Skp Q W n p q ∧ Ch Q W q (d.take n) := by
  induction h with
  | nil => exact ⟨none, .nil, by simp; exact .nil⟩
  | cons g b cap k ah pre D h1 h2 h3 h4 h5 h6 h7 h8 h9 h10 ih =>
    have c0 : W.cell? ⟨g, 0, none⟩ = some (.pointer ah) := by rw [cell_of_row _ _ _ _ _ _ h3]; rfl
    have c1 : W.cell? ⟨g, 1, none⟩ = some (.int .i64 (pre.length : Int)) := by rw [cell_of_row _ _ _ _ _ _ h3]; rfl
    by_cases hm : n ≤ pre.length
    · obtain ⟨q, q1, q2⟩ := ih hm
      refine ⟨q, .step g _ ah q h1 c0 c1 hm q1, ?_⟩
      rwa [List.take_append_of_le_length hm]
    · refine ⟨some ⟨g, 0, none⟩, .stop g _ h1 c1 (by omega), ?_⟩
      rw [List.length_append, List.length_take] at hn
      rw [List.take_append, List.take_take, List.take_of_length_le (by omega)]
      exact .cons g b cap (min (n - pre.length) k) ah pre D h1 h2 h3 h4 h5 h6 h7 (by omega) (by omega) h10
set_option maxRecDepth 100000 in
set_option maxHeartbeats 1600000 in
theorem cut_det (Q : Nat → Prop) (p q0 : Option Addr) (d : List Nat) (s n : Nat) (W : World) (hch : Ch Q W p d) (hsk : Skp Q W n p q0) (hs : s ≤ d.length) (hlim : d.length ≤ LIM) (hn : n ≤ d.length) : Calls Tryd.prog 54 #[.agg (cnA p d.length s), .int .i64 (n : Int)] W fun e w' => e = .returned (.agg (cnA q0 n (min s n))) ∧ Below W.heap.size W w' := by
  have HC : Hid (Ch Q W p d ∧ d.length ≤ LIM ∧ n ≤ d.length ∧ s ≤ d.length ∧ Skp Q W n p q0) := ⟨hch, hlim, hn, hs, hsk⟩
  clear hch hs hlim hn hsk
  unfold cnA at *
  go_enter Tryd.func54, Tryd.ntmps54
  go_wp2_with fail
  go_loopg [] d.length (fun k wr => ∃ q d', Hid (k = d'.length ∧ Ch Q W q d' ∧ n ≤ d'.length ∧ d'.take n = d.take n ∧ Skp Q W n q q0) ∧ wr = (W.alloc (.cells #[.pointer q, .int .i64 (d.length : Int), .int .i64 (s : Int)] 88)).alloc (.cells #[.pointer none, .int .i64 0, .int .i64 0] 88))
  case atStart => exact ⟨p, d, ⟨rfl, HC.out.1, HC.out.2.2.1, rfl, HC.out.2.2.2.2⟩, rfl⟩
  case round =>
    obtain ⟨q, d', HD, rfl⟩ := hrel
    have b2 : Hid (∀ q s', Below W.heap.size W ((W.alloc (.cells #[.pointer q, .int .i64 s', .int .i64 (s : Int)] 88)).alloc (.cells #[.pointer none, .int .i64 0, .int .i64 0] 88))) := fun q s' => below2 W _ _
    rcases HD.out.2.1.cut1 with ⟨rfl, e0⟩ | ⟨g, ah, m, pre, rfl, c0, c1, hg, hm, hpre, hpl, hah, hall⟩
    · have hn0 : n = 0 := by have := HD.out.2.2.1; rw [e0] at this; simpa using this
      subst hn0
      have HE : Hid (d' = []) := e0
      clear e0
      go_wp2_with fail
      all_goals
        refine bodyPost_ret (results_C rfl _ _ (W.heap.size + 1) _ rfl rfl (row2n _ _ _)) rfl ?_
        have hq : q0 = none := HD.out.2.2.2.2.ofnil
        subst hq
        refine ⟨?_, below2 _ _ _⟩
        first
          | (simp; done)
          | (obtain rfl : s = 0 := by omega
             simp)
    · have c0' := below_cell (b2.out (some ⟨g, 0, none⟩) (d.length : Int)) c0
      have c1' := below_cell (b2.out (some ⟨g, 0, none⟩) (d.length : Int)) c1
      have HP : Hid (pre = d'.take m ∧ pre.length = m ∧ Ch Q W ah pre ∧ m < d'.length) := ⟨hpre, hpl, hah, hm⟩
      have HSS : Hid ((n ≤ m → Skp Q W n ah q0) ∧ (m < n → q0 = some ⟨g, 0, none⟩)) := HD.out.2.2.2.2.at c0 c1
      clear c0 c1 hpre hpl hah hm hall
      by_cases hmn : n ≤ m
      · have h1 : (n : Int) ≤ (m : Int) := by omega
        go_wp2_with fail
        go_roundg m
        case measure => have h2 := HD.out.1; have h3 := HP.out.2.2.2; omega
        case rel => exact ⟨ah, pre, ⟨HP.out.2.1.symm, HP.out.2.2.1, by rw [HP.out.2.1]; exact hmn, by rw [HP.out.1, take_min _ _ _ hmn]; exact HD.out.2.2.2.1, HSS.out.1 hmn⟩, rfl⟩
      · have h1 : ¬ (n : Int) ≤ (m : Int) := by omega
        go_wp2_with fail
        all_goals
          refine bodyPost_ret (results_C rfl _ _ (W.heap.size + 1) _ rfl rfl (row2n _ _ _)) rfl ?_
          have hq : q0 = some ⟨g, 0, none⟩ := HSS.out.2 (by omega)
          subst hq
          refine ⟨?_, below2 _ _ _⟩
          first
            | (rw [Nat.min_eq_right (by omega)]; done)
            | (rw [Nat.min_eq_left (by omega)]; done)
end Go.Proofs.YtfimaflglnemdaaDoor.Dev

/- The journal's device: At. -/
namespace Go.Proofs.YtfimaflglnemdaaDoor.Dev
open Go.RowKit
set_option maxRecDepth 20000
theorem stc_new (wr : World) (p : Option Addr) (n s : Nat) : (stC (.pointer (some ⟨wr.heap.size, 0, none⟩)) (.agg #[.pointer p, .int .i64 (n : Int), .int .i64 (s : Int)])).run Tryd.prog (wr.alloc (.cells #[.pointer none, .int .i64 0, .int .i64 0] 88)) = .ok () (wr.alloc (.cells #[.pointer p, .int .i64 (n : Int), .int .i64 (s : Int)] 88)) := by
  have := st_C (wr.alloc (.cells zC 88)) wr.heap.size zC #[.pointer p, .int .i64 (n : Int), .int .i64 (s : Int)] rfl rfl (by simp [Value.oneCell']) (heap_alloc_new _ _)
  rw [World.setRow_alloc_new] at this
  exact this
theorem mo_cn {Q : Nat → Prop} {W : World} {p0 p1 : Option Addr} {n0 s0 n1 s1 : Nat} {x : Sp} (h : Mo Q W #[.pointer p0, .int .i64 (n0 : Int), .int .i64 (s0 : Int), .pointer p1, .int .i64 (n1 : Int), .int .i64 (s1 : Int)] x) : Cn Q W #[.pointer p0, .int .i64 (n0 : Int), .int .i64 (s0 : Int)] x.1.1 x.1.2 ∧ Cn Q W #[.pointer p1, .int .i64 (n1 : Int), .int .i64 (s1 : Int)] x.2.1 x.2.2 := by
  obtain ⟨q0, q1, h1, h2, h3⟩ := h
  have := congrArg Array.toList h1
  simp only [momA, List.cons.injEq, Value.pointer.injEq, Value.int.injEq, true_and, and_true] at this
  obtain ⟨rfl, e1, e2, rfl, e3, e4⟩ := this
  rw [e1, e2, e3, e4]
  exact ⟨h2, h3⟩
theorem cut_eq {x : List Nat × Nat} {k N : Nat} (h : keepN x k = N) : cutP x k = (x.1.take N, min x.2 N) := by unfold cutP; rw [h]
theorem cn_inj {p q : Option Addr} {n s : Nat} {d : List Nat} {t : Nat} (h : #[.pointer p, .int .i64 (n : Int), .int .i64 (s : Int)] = cnA q d.length t) : p = q ∧ n = d.length ∧ s = t := by
  have := congrArg Array.toList h
  simp only [cnA, List.cons.injEq, Value.pointer.injEq, Value.int.injEq, true_and, and_true] at this
  exact ⟨this.1, by omega, by omega⟩
theorem ld3 (w : World) {g o : Nat} {n : Int} (h : w.cell? ⟨g, o, none⟩ = some (.int .i64 n)) : (Instr.loadAt 3 (.pointer (some ⟨g, o, none⟩))).run Tryd.prog w = .ok (.int .i64 n) w := by simp [h, go_sem]
theorem gd_ne (l : Array Bool) (i j : Nat) (h : i ≠ j) : (l.setIfInBounds i true).getD j true = l.getD j true := by
  simp [h]
theorem gd_eq (l : Array Bool) (i : Nat) : (l.setIfInBounds i true).getD i true = true := by
  simp [Array.getElem?_setIfInBounds]
  split <;> rfl
theorem gd_true {l : Array Bool} {i : Nat} (h : l.getD i false = true) : l.getD i true = true := by
  simp only [Array.getD_eq_getD_getElem?] at h ⊢
  cases hq : l[i]? with
  | none => rfl
  | some b => rw [hq] at h; exact h
end Go.Proofs.YtfimaflglnemdaaDoor.Dev

/- The journal's device: its operations' functions. -/
namespace Go.Proofs.YtfimaflglnemdaaDoor.Dev
open Go.RowKit
set_option maxRecDepth 20000
/-- All else stays. -/
structure Fr (W w' : World) (v : Nat) (lv : Value) : Prop where
  os : w'.os = W.os
  tape : w'.tape = W.tape
  output : w'.output = W.output
  size : W.heap.size ≤ w'.heap.size
  block : ∀ j, j < W.heap.size → j ≠ v → lv.ownBlock ≠ some j → w'.heap[j]? = W.heap[j]?
def apM (ty : Nat) (vs : Array Value) : Sem Value := Builtin.append_ #[91, 91] ty vs
theorem toApM (ty : Nat) (vs : Array Value) : Builtin.append_ #[91, 91] ty vs = apM ty vs := rfl
theorem infoM : (Tryd.prog.info? 90).map (fun i => (i.zero, i.size, i.bytes)) = some (some (.agg #[.pointer none, .int .i64 0, .int .i64 0, .pointer none, .int .i64 0, .int .i64 0]), 6, 48) := by kernel_rfl
theorem cells_new (w : World) (t : Array Value) (ty : TypeId) (j : Nat) (u : Value) (hu : t.toList[j]? = some u) : (w.alloc (.cells t ty)).cell? ((⟨w.heap.size, 0, none⟩ : Addr).add j) = some u := by
  rw [Addr.add_mid, Nat.zero_add, cell_of_row _ _ _ _ _ _ (heap_alloc_new w (.cells t ty)), ← Array.getElem?_toList]
  exact hu
/-- One moment more. -/
theorem run_apM1 (w : World) (base n : Nat) (v : Value) (ls : List (Array Value)) (t : Array Value) (hown : w.ownsRow base 90 6 v n (flat ls)) (ht : t.size = 6) (h1 : t.all (·.oneCell') = true) (hb : n + 1 ≤ 1000000) (hbase : base ≤ w.heap.size) :
    ∃ v' w', (apM 91 #[v, .slice (some ⟨w.heap.size, 0, none⟩) 1 1]).run Tryd.prog (w.alloc (.cells t 90)) = .ok v' w' ∧ w'.ownsRow base 90 6 v' (n + 1) (flat (ls ++ [t])) ∧ (w.alloc (.cells t 90)).grownBy w' v.ownBlock ∧ (v'.ownBlock = v.ownBlock ∨ v'.ownBlock = some (w.heap.size + 1)) := by
  obtain ⟨i0, hi0, hz0, hz1, hz2⟩ := info_parts infoM
  obtain ⟨v', w', hr, ho, hg, _, hat⟩ := run_append_own_at (P := Tryd.prog) (w.alloc (.cells t 90)) base 91 91 90 i0 _ 6 48 Tryd.underlying91 hi0 hz0 hz1 hz2 rfl (by omega) v n _ (hown.alloc _) ⟨w.heap.size, 0, none⟩ 1 1 t.toList (by simp [ht]) (fun j u hu => cells_new w t _ j u hu) (fun u hu => by
      have := Array.all_eq_true_iff_forall_mem.1 h1 u (by simpa using hu)
      exact this) (by unfold maxLen; omega) (by omega) (by simp; omega)
  refine ⟨v', w', hr, ?_, hg, ?_⟩
  · rw [flat_app, show flat [t] = t.toList by simp [flat]]
    exact ho
  · simpa using hat
/-- What an operation's function answers. -/
def ClP (Q : Nat → Prop) (W : World) (z : List Nat × Nat) (e : Ending) (w' : World) : Prop := ∃ c', e = .returned (.tuple #[.agg c', .int .i64 0]) ∧ Cn (fun g => Q g ∨ W.heap.size ≤ g ∧ g < w'.heap.size) w' c' z.1 z.2 ∧ Below W.heap.size W w'
section
attribute [local go_sem ↓] toStC
theorem cn_off {Q : Nat → Prop} {W : World} {c : Array Value} {d : List Nat} {s : Nat} (h : Cn Q W c d s) (B : Nat) (C : Array Value) (hB : ∀ j, Q j → j ≠ B) : Cn Q (W.setRow B C) c d s := h.keep (fun j hj => setRow_other _ _ _ _ (hB j hj)) (fun _ h => h)
set_option maxRecDepth 100000 in
theorem sync_cl (Q : Nat → Prop) (c : Array Value) (d : List Nat) (s : Nat) (W : World) (hc : Cn Q W c d s) (hQ : ∀ j, Q j → j < W.heap.size)  : Calls Tryd.prog 60 #[.agg c] W (ClP Q W (d, d.length)) := by
  obtain ⟨p, rfl, hch, hs, hlim⟩ := id hc
  obtain ⟨W1, hW1⟩ : ∃ W1, (W.alloc (.cells (cnA p d.length s) 88)).alloc (.cells zC 88) = W1 := ⟨_, rfl⟩
  have bW : Below W.heap.size W W1 := by rw [← hW1]; exact below2 _ _ _
  have r1 : W1.heap[W.heap.size + 1]? = some (.cells zC 88 (0, 0)) := by rw [← hW1]; exact row2n _ _ _
  have hc1 : Cn Q W1 (cnA p d.length s) d s := hc.keep (fun j hj => bW.block j (hQ j hj)) (fun _ h => h)
  have hQ1 : ∀ j, Q j → j < W1.heap.size := fun j hj => Nat.lt_of_lt_of_le (hQ j hj) bW.size

  have HC : Hid _ := synced_any Q _ d s W1 hc1 hQ1
  have HR : Hid (Below W.heap.size W W1 ∧ W1.heap[W.heap.size + 1]? = some (.cells zC 88 (0, 0))) := ⟨bW, r1⟩
  have HW : Hid ((W.alloc (.cells #[.pointer p, .int .i64 (d.length : Int), .int .i64 (s : Int)] 88)).alloc (.cells #[.pointer none, .int .i64 0, .int .i64 0] 88) = W1) := hW1
  clear hW1 bW r1 hc1 hQ1 hch hs hlim hc
  unfold cnA at *
  go_enter Tryd.func60, Tryd.ntmps60
  go_wp2_with fail
  rw [HW.out]
  refine Calls.mono HC.out ?_
  rintro e Y ⟨c', rfl, hcY, hY⟩
  obtain ⟨pc, rfl, -⟩ := id hcY
  have rY : Y.heap[W.heap.size + 1]? = some (.cells zC 88 (0, 0)) := (hY.block _ (Array.getElem?_eq_some_iff.1 HR.out.2).1).trans HR.out.2

  have st := st_C Y (W.heap.size + 1) zC (cnA pc d.length d.length) rfl rfl (by simp [cnA, Value.oneCell']) rY
  have bY : Below W.heap.size W Y := HR.out.1.trans (hY.mono HR.out.1.size)
  have HF : Hid ((Y.setRow (W.heap.size + 1) (cnA pc d.length d.length)).heap[W.heap.size + 1]? = some (.cells (cnA pc d.length d.length) 88 (0, 0)) ∧ ClP Q W (d, d.length) (.returned (.tuple #[.agg (cnA pc d.length d.length), .int .i64 0])) (Y.setRow (W.heap.size + 1) (cnA pc d.length d.length))) := by
    refine ⟨setRow_heap _ _ _ _ _ _ rY, _, rfl, ?_, below_setRow bY (by omega) _⟩
    refine (cn_off hcY (W.heap.size + 1) _ ?_).keep (fun _ _ => rfl) (fun j hj => .inl hj)
    intro j hj e
    have := hQ j hj
    omega
  unfold cnA at *
  clear hcY hY rY bY HC
  go_wp2_with fail
  refine bodyPost_ret (results_Ct rfl _ _ (W.heap.size + 1) _ rfl rfl HF.out.1) rfl ?_
  exact HF.out.2
set_option maxRecDepth 100000 in
theorem app_cl (Q : Nat → Prop) (c : Array Value) (d : List Nat) (s : Nat) (W : World) (hc : Cn Q W c d s) (hQ : ∀ j, Q j → j < W.heap.size) (pb : Nat) (u : Value) (l : List Nat) (hl : Bl W u l) (hpb : W.heap[pb]? = some (.cells #[u] 23 (0, 0))) (hroom : d.length + l.length ≤ 67108864) : Calls Tryd.prog 59 #[.agg c, .pointer (some ⟨pb, 0, none⟩)] W (ClP Q W (d ++ l, s)) := by
  obtain ⟨p, rfl, hch, hs, hlim⟩ := id hc
  obtain ⟨W1, hW1⟩ : ∃ W1, (W.alloc (.cells (cnA p d.length s) 88)).alloc (.cells zC 88) = W1 := ⟨_, rfl⟩
  have bW : Below W.heap.size W W1 := by rw [← hW1]; exact below2 _ _ _
  have r1 : W1.heap[W.heap.size + 1]? = some (.cells zC 88 (0, 0)) := by rw [← hW1]; exact row2n _ _ _
  have hc1 : Cn Q W1 (cnA p d.length s) d s := hc.keep (fun j hj => bW.block j (hQ j hj)) (fun _ h => h)
  have hQ1 : ∀ j, Q j → j < W1.heap.size := fun j hj => Nat.lt_of_lt_of_le (hQ j hj) bW.size
  obtain ⟨oa, cap, rfl, -⟩ := id hl
  have hpb1 : W1.heap[pb]? = some (.cells #[.slice oa l.length cap] 23 (0, 0)) := (bW.block pb (Array.getElem?_eq_some_iff.1 hpb).1).trans hpb
  have q0 : W1.cell? ⟨pb, 0, none⟩ = some (.slice oa l.length cap) := by rw [cell_of_row _ _ _ _ _ _ hpb1]; rfl
  have HC : Hid _ := with_any Q _ d s _ l W1 hc1 hQ1 (hl.below bW) (by unfold LIM; omega)
  have HR : Hid (Below W.heap.size W W1 ∧ W1.heap[W.heap.size + 1]? = some (.cells zC 88 (0, 0))) := ⟨bW, r1⟩
  have HW : Hid ((W.alloc (.cells #[.pointer p, .int .i64 (d.length : Int), .int .i64 (s : Int)] 88)).alloc (.cells #[.pointer none, .int .i64 0, .int .i64 0] 88) = W1) := hW1
  obtain ⟨N, hN⟩ : ∃ N, d.length + l.length = N := ⟨_, rfl⟩
  have w0 : IntKind.i64.wrap ((d.length : Int) + (l.length : Int)) = (N : Int) := by rw [IntKind.wrap_i64]; omega
  have w1 : ¬ ((67108864 : Int) < (N : Int)) := by omega
  have HN : Hid ((d ++ l).length = N) := by show _ = _; rw [List.length_append]; exact hN
  rw [← hW1] at q0
  clear hW1 bW r1 hc1 hQ1 hch hs hlim hc hN hpb hpb1 hroom hl
  unfold zC cnA at q0
  unfold cnA at *
  go_enter Tryd.func59, Tryd.ntmps59
  go_wp2_with fail
  rw [HW.out]
  refine Calls.mono HC.out ?_
  rintro e Y ⟨c', rfl, hcY, hY⟩
  obtain ⟨pc, rfl, -⟩ := id hcY
  have rY : Y.heap[W.heap.size + 1]? = some (.cells zC 88 (0, 0)) := (hY.block _ (Array.getElem?_eq_some_iff.1 HR.out.2).1).trans HR.out.2
  rw [HN.out] at hcY ⊢
  have st := st_C Y (W.heap.size + 1) zC (cnA pc N s) rfl rfl (by simp [cnA, Value.oneCell']) rY
  have bY : Below W.heap.size W Y := HR.out.1.trans (hY.mono HR.out.1.size)
  have HF : Hid ((Y.setRow (W.heap.size + 1) (cnA pc N s)).heap[W.heap.size + 1]? = some (.cells (cnA pc N s) 88 (0, 0)) ∧ ClP Q W (d ++ l, s) (.returned (.tuple #[.agg (cnA pc N s), .int .i64 0])) (Y.setRow (W.heap.size + 1) (cnA pc N s))) := by
    refine ⟨setRow_heap _ _ _ _ _ _ rY, _, rfl, ?_, below_setRow bY (by omega) _⟩
    refine (cn_off hcY (W.heap.size + 1) _ ?_).keep (fun _ _ => rfl) (fun j hj => ?_)
    · intro j hj e
      have h1 := (Array.getElem?_eq_some_iff.1 HR.out.2).1
      rcases hj with h | h
      · have := hQ j h; omega
      · omega
    · have := HR.out.1.size
      rcases hj with h | h
      · exact .inl h
      · exact .inr ⟨by omega, by simpa using h.2⟩
  unfold cnA at *
  clear hcY hY rY bY HC
  go_wp2_with fail
  refine bodyPost_ret (results_Ct rfl _ _ (W.heap.size + 1) _ rfl rfl HF.out.1) rfl ?_
  exact HF.out.2
set_option maxRecDepth 100000 in
theorem cut_cl (Q : Nat → Prop) (c : Array Value) (d : List Nat) (s : Nat) (W : World) (hc : Cn Q W c d s) (hQ : ∀ j, Q j → j < W.heap.size) (pb n : Nat) (hpb : W.heap[pb]? = some (.cells #[.int .i64 (n : Int)] 3 (0, 0))) (hn : n ≤ d.length) : Calls Tryd.prog 61 #[.agg c, .pointer (some ⟨pb, 0, none⟩)] W (ClP Q W (d.take n, min s n)) := by
  obtain ⟨p, rfl, hch, hs, hlim⟩ := id hc
  obtain ⟨W1, hW1⟩ : ∃ W1, (W.alloc (.cells (cnA p d.length s) 88)).alloc (.cells zC 88) = W1 := ⟨_, rfl⟩
  have bW : Below W.heap.size W W1 := by rw [← hW1]; exact below2 _ _ _
  have r1 : W1.heap[W.heap.size + 1]? = some (.cells zC 88 (0, 0)) := by rw [← hW1]; exact row2n _ _ _
  have hc1 : Cn Q W1 (cnA p d.length s) d s := hc.keep (fun j hj => bW.block j (hQ j hj)) (fun _ h => h)
  have hQ1 : ∀ j, Q j → j < W1.heap.size := fun j hj => Nat.lt_of_lt_of_le (hQ j hj) bW.size
  have hpb1 : W1.heap[pb]? = some (.cells #[.int .i64 (n : Int)] 3 (0, 0)) := (bW.block pb (Array.getElem?_eq_some_iff.1 hpb).1).trans hpb
  have q0 : W1.cell? ⟨pb, 0, none⟩ = some (.int .i64 (n : Int)) := by rw [cell_of_row _ _ _ _ _ _ hpb1]; rfl
  have HC : Hid _ := cut_any Q _ d s n W1 hc1 hQ1 hn
  have HR : Hid (Below W.heap.size W W1 ∧ W1.heap[W.heap.size + 1]? = some (.cells zC 88 (0, 0))) := ⟨bW, r1⟩
  have HW : Hid ((W.alloc (.cells #[.pointer p, .int .i64 (d.length : Int), .int .i64 (s : Int)] 88)).alloc (.cells #[.pointer none, .int .i64 0, .int .i64 0] 88) = W1) := hW1
  have w0 : ¬ ((n : Int) < 0) := by omega
  have w1 : ¬ ((d.length : Int) < (n : Int)) := by omega
  have w2 : ¬ (d.length < n) := by omega
  obtain ⟨t0, ht0⟩ : ∃ t, min s n = t := ⟨_, rfl⟩
  have HN : Hid ((d.take n).length = n ∧ min s n = t0) := ⟨by rw [List.length_take]; omega, ht0⟩
  rw [← hW1] at q0
  clear hW1 bW r1 hc1 hQ1 hch hs hlim hc hpb hpb1 hn ht0
  unfold zC cnA at q0
  unfold cnA at *
  go_enter Tryd.func61, Tryd.ntmps61
  go_wp2_with fail
  rw [HW.out]
  refine Calls.mono HC.out ?_
  rintro e Y ⟨c', rfl, hcY, hY⟩
  obtain ⟨pc, rfl, -⟩ := id hcY
  have rY : Y.heap[W.heap.size + 1]? = some (.cells zC 88 (0, 0)) := (hY.block _ (Array.getElem?_eq_some_iff.1 HR.out.2).1).trans HR.out.2
  have ec : cnA pc (d.take n).length (min s n) = cnA pc n t0 := by rw [HN.out.1, HN.out.2]
  rw [ec] at hcY ⊢
  have st := st_C Y (W.heap.size + 1) zC (cnA pc n t0) rfl rfl (by simp [cnA, Value.oneCell']) rY
  have bY : Below W.heap.size W Y := HR.out.1.trans (hY.mono HR.out.1.size)
  have HF : Hid ((Y.setRow (W.heap.size + 1) (cnA pc n t0)).heap[W.heap.size + 1]? = some (.cells (cnA pc n t0) 88 (0, 0)) ∧ ClP Q W (d.take n, min s n) (.returned (.tuple #[.agg (cnA pc n t0), .int .i64 0])) (Y.setRow (W.heap.size + 1) (cnA pc n t0))) := by
    refine ⟨setRow_heap _ _ _ _ _ _ rY, _, rfl, ?_, below_setRow bY (by omega) _⟩
    refine (cn_off hcY (W.heap.size + 1) _ ?_).keep (fun _ _ => rfl) (fun j hj => .inl hj)
    intro j hj e
    have := hQ j hj
    omega
  unfold cnA at *
  clear hcY hY rY bY HC
  go_wp2_with fail
  refine bodyPost_ret (results_Ct rfl _ _ (W.heap.size + 1) _ rfl rfl HF.out.1) rfl ?_
  exact HF.out.2
end
end Go.Proofs.YtfimaflglnemdaaDoor.Dev
