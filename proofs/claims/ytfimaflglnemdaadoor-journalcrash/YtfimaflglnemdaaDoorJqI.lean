/- Several texts in one: JdA, JdB, JdC, JdD. -/
import Derived.Test.YtfimaflglnemdaaDoorJrZd
import Derived.WalkKit
import Derived.RowKitTokens
import Derived.Deep.MidRow
import Derived.Maps.AppendAt
import Derived.Laws.CopyRow
import Derived.Laws.OwnMore
import Derived.RegionTactic
import Derived.Deep.RegionWith
import Derived.Deep.DrawnRows
import Derived.Deep.DeepCutAuto
import Derived.Laws.CopyOwn
import Derived.Lib.BufferMore
import Derived.Deep.LoopGhost
import Derived.Deep.OwnRows
import Derived.BigRegion
/- The journal's device: contents as they lie. -/
namespace Go.Proofs.YtfimaflglnemdaaDoor.Dev
open Go.RowKit
theorem bs_app (a b : List Nat) : bs (a ++ b) = bs a ++ bs b := by simp [bs]
theorem bs_take (a : List Nat) (k : Nat) : bs (a.take k) = (bs a).take k := by simp [bs, List.map_take]
theorem bs_one (l : List Nat) : ∀ u ∈ bs l, u.oneCell' = true := fun u hu => by
  obtain ⟨x, _, rfl⟩ := List.mem_map.1 hu
  rfl
/-- A row of chunks. -/
inductive Ch (Q : Nat → Prop) (W : World) : Option Addr → List Nat → Prop
  | nil : Ch Q W none []
  | cons (g b cap k : Nat) (ah : Option Addr) (pre D : List Nat) : Q g → Q b → W.heap[g]? = some (.cells #[.pointer ah, .int .i64 (pre.length : Int), .slice (some ⟨b, 0, none⟩) D.length cap] 120 (0, 0)) → D.length ≤ cap → cap ≤ maxLen →
      (∀ (j : Nat) u, (bs D)[j]? = some u → W.cell? ⟨b, j, none⟩ = some u) → Byt D → 0 < k → k ≤ D.length → Ch Q W ah pre → Ch Q W (some ⟨g, 0, none⟩) (pre ++ D.take k)
theorem Ch.keep {Q Q' : Nat → Prop} {W W' : World} (hb : ∀ j, Q j → W'.heap[j]? = W.heap[j]?) (hq : ∀ j, Q j → Q' j) {p : Option Addr} {d : List Nat} (h : Ch Q W p d) : Ch Q' W' p d := by
  induction h with
  | nil => exact .nil
  | cons g b cap k ah pre D h1 h2 h3 h4 h5 h6 h7 h8 h9 _ ih => exact .cons g b cap k ah pre D (hq g h1) (hq b h2) ((hb g h1).trans h3) h4 h5 (fun j u hu => (World.cell?_of_block (w := W) (a := ⟨b, j, none⟩) (hb b h2)).trans (h6 j u hu)) h7 h8 h9 ih
theorem Ch.byt {Q : Nat → Prop} {W : World} {p : Option Addr} {d : List Nat} (h : Ch Q W p d) : Byt d := by
  induction h with
  | nil => intro x hx; cases hx
  | cons g b cap k ah pre D h1 h2 h3 h4 h5 h6 h7 h8 h9 _ ih =>
    intro x hx
    rcases List.mem_append.1 hx with h | h
    · exact ih x h
    · exact h7 x (List.mem_of_mem_take h)
def LIM : Nat := 100000000000000
def cnA (p : Option Addr) (n s : Nat) : Array Value := #[.pointer p, .int .i64 (n : Int), .int .i64 (s : Int)]
/-- What a file holds, as it lies. -/
def Cn (Q : Nat → Prop) (W : World) (c : Array Value) (d : List Nat) (s : Nat) : Prop := ∃ p, c = cnA p d.length s ∧ Ch Q W p d ∧ s ≤ d.length ∧ d.length ≤ LIM
theorem Cn.keep {Q Q' : Nat → Prop} {W W' : World} (hb : ∀ j, Q j → W'.heap[j]? = W.heap[j]?) (hq : ∀ j, Q j → Q' j) {c : Array Value} {d : List Nat} {s : Nat} (h : Cn Q W c d s) : Cn Q' W' c d s := by
  obtain ⟨p, h1, h2, h3⟩ := h
  exact ⟨p, h1, h2.keep hb hq, h3⟩
theorem sizeC : (Tryd.prog.info? 88).map (·.size) = some 3 := by kernel_rfl
def ldC (p : Value) : Sem Value := Instr.loadAt 88 p
theorem toLdC (p : Value) : Instr.loadAt 88 p = ldC p := rfl
def stC (p v : Value) : Sem Unit := Instr.storeAt 88 p v
theorem toStC (p v : Value) : Instr.storeAt 88 p v = stC p v := rfl
theorem ld_C (w : World) (g o : Nat) (c : Array Value) (hc : c.size = 3) (h : w.rangeAt g o c.toList) : (ldC (.pointer (some ⟨g, o, none⟩))).run Tryd.prog w = .ok (.agg c) w := by
  have := run_loadAt_mid (P := Tryd.prog) w g o 88 c.toList _ h Tryd.underlying88 rfl (by rw [sizeC]; simp [hc])
  simpa [ldC] using this
theorem ld_Crow (w : World) (g : Nat) (c : Array Value) (hc : c.size = 3) (h : w.heap[g]? = some (.cells c 88 (0, 0))) : (ldC (.pointer (some ⟨g, 0, none⟩))).run Tryd.prog w = .ok (.agg c) w := by
  refine ld_C w g 0 c hc ?_
  have := World.rangeAt_of_block h 0 3
  rwa [show c.extract 0 (0 + 3) = c by rw [← hc, Nat.zero_add]; simp] at this
theorem st_C (w : World) (g : Nat) (C D : Array Value) (hC : C.size = 3) (hD : D.size = 3) (h1 : D.all (·.oneCell') = true) (hg : w.heap[g]? = some (.cells C 88 (0, 0))) : (stC (.pointer (some ⟨g, 0, none⟩)) (.agg D)).run Tryd.prog w = .ok () (w.setRow g D) := by
  unfold stC
  simp only [Instr.storeAt, Instr.sureAddr, Sem.run_bind, Sem.run_pure, Result.andThen_ok, run_storeVar_row w g 88 88 C D hg (by rw [sizeC, hD]) (by rw [hD, hC]) h1]
theorem results_C {fn : Func} {p : Tmp} (h : fn.results = #[.cell p 88]) (tmps : Array Value) (w : World) (g : Nat) (C : Array Value) (hC : C.size = 3)
    (hp : tmps.getD p undef = .pointer (some ⟨g, 0, none⟩)) (hg : w.heap[g]? = some (.cells C 88 (0, 0))) :
    (results fn tmps).run Tryd.prog w = .ok (.agg C) w := by
  have hp' : tmps[p]?.getD undef = .pointer (some ⟨g, 0, none⟩) := by simpa using hp
  simp [results, h, hp', asAddr, run_loadVar_row w g 88 88 C (0, 0) _ hg Tryd.underlying88 rfl (by rw [sizeC, hC])]
theorem results_Ct {fn : Func} {p u : Tmp} (h : fn.results = #[.cell p 88, .tmp u]) (tmps : Array Value) (w : World) (g : Nat) (C : Array Value) (hC : C.size = 3)
    (hp : tmps.getD p undef = .pointer (some ⟨g, 0, none⟩)) (hg : w.heap[g]? = some (.cells C 88 (0, 0))) :
    (results fn tmps).run Tryd.prog w = .ok (.tuple #[.agg C, tmps.getD u undef]) w := by
  have hp' : tmps[p]?.getD undef = .pointer (some ⟨g, 0, none⟩) := by simpa using hp
  simp [results, h, hp', asAddr, run_loadVar_row w g 88 88 C (0, 0) _ hg Tryd.underlying88 rfl (by rw [sizeC, hC])]
def zC : Array Value := #[.pointer none, .int .i64 0, .int .i64 0]
def apB (ty : Nat) (vs : Array Value) : Sem Value := Builtin.append_ #[23, 23] ty vs
theorem toApB (ty : Nat) (vs : Array Value) : Builtin.append_ #[23, 23] ty vs = apB ty vs := rfl
theorem info5 : (Tryd.prog.info? 5).map (fun i => (i.zero, i.size, i.bytes)) = some (some (.int .u8 0), 1, 1) := by kernel_rfl
theorem info_parts {P : Program} {e : TypeId} {z : Option Value} {s b : Nat} (h : (P.info? e).map (fun i => (i.zero, i.size, i.bytes)) = some (z, s, b)) : ∃ i, P.info? e = some i ∧ i.zero = z ∧ i.size = s ∧ i.bytes = b := by
  cases hq : P.info? e with
  | none => simp [hq] at h
  | some i =>
    rw [hq] at h
    simp only [Option.map_some, Option.some.injEq, Prod.mk.injEq] at h
    exact ⟨i, rfl, h.1, h.2.1, h.2.2⟩
/-- Bytes behind bytes of one's own. -/
theorem run_apB1 (w : World) (base n : Nat) (v u : Value) (xs : List Value) (l : List Nat) (hown : w.ownsRow base 5 1 v n xs) (hl : Bl w u l) (hb : n + l.length ≤ 2 * LIM / 2) (hpos : 0 < l.length) (hbase : base ≤ w.heap.size) :
    ∃ v' w', (apB 23 #[v, u]).run Tryd.prog w = .ok v' w' ∧ w'.ownsRow base 5 1 v' (n + l.length) (xs ++ bs l) ∧ w.grownBy w' v.ownBlock ∧ (v'.ownBlock = v.ownBlock ∨ v'.ownBlock = some w.heap.size) := by
  obtain ⟨i0, hi0, hz0, hz1, hz2⟩ := info_parts info5
  obtain ⟨oa, cap, rfl, h2, h3, h4, h5⟩ := hl
  obtain ⟨u0, hu0⟩ : ∃ u0, (bs l)[0]? = some u0 := ⟨_, List.getElem?_eq_getElem (by rw [bs_len]; exact hpos)⟩
  obtain ⟨g, o, rfl, -, -⟩ := h5 0 u0 hu0
  unfold LIM at hb
  obtain ⟨v', w', hr, ho, hg, -, hat⟩ := run_append_own_at (P := Tryd.prog) w base 23 23 5 i0 _ 1 1 Tryd.underlying23 hi0 hz0 hz1 hz2 rfl (by omega) v n xs hown ⟨g, o, none⟩ l.length cap (bs l) (by rw [bs_len]; omega) (fun j u hu => by
    obtain ⟨g', o', e1, e2, e3⟩ := h5 j u hu
    cases e1
    rw [Addr.add_mid]
    exact e3) (bs_one l) (by unfold maxLen; omega) (by omega) hbase
  exact ⟨v', w', hr, ho, hg, hat⟩
end Go.Proofs.YtfimaflglnemdaaDoor.Dev

/- The journal's device: bytes.Clone, with, synced. -/
namespace Go.Proofs.YtfimaflglnemdaaDoor.Dev
open Go.RowKit
attribute [local go_sem ↓] toApB
theorem own_sl {w : World} {lo e sz n : Nat} {v : Value} {xs : List Value} (h : w.ownsRow lo e sz v n xs) : ∃ o m c, v = .slice o m c := by
  rcases h.2 with ⟨h1, _⟩ | ⟨g, cap, cur, h1, _⟩
  · exact ⟨_, _, _, h1⟩
  · exact ⟨_, _, _, h1⟩
set_option maxRecDepth 100000 in
theorem clone_any (u : Value) (l : List Nat) (W : World) (hl : Bl W u l) (hpos : 0 < l.length) (hlim : l.length ≤ LIM) : Calls Tryd.prog 63 #[u] W fun e w' => ∃ g cap, e = .returned (.slice (some ⟨g, 0, none⟩) l.length cap) ∧ w'.ownsRow W.heap.size 5 1 (.slice (some ⟨g, 0, none⟩) l.length cap) l.length (bs l) ∧ Below W.heap.size W w' ∧ W.heap.size ≤ g ∧ g < w'.heap.size := by
  obtain ⟨W1, hW1⟩ : ∃ W1, W.alloc (.cells #[] 5) = W1 := ⟨_, rfl⟩
  have b1 : Below W.heap.size W W1 := by rw [← hW1]; exact (Below.refl _ W).alloc (Nat.le_refl _) _
  have r1 : W1.heap[W.heap.size]? = some (.cells #[] 5 (0, 0)) := by rw [← hW1]; exact heap_alloc_new _ _
  have o1 : W1.ownsRow W.heap.size 5 1 (.slice (some ⟨W.heap.size, 0, none⟩) 0 0) 0 [] := ⟨rfl, .inr ⟨W.heap.size, 0, #[], rfl, Nat.le_refl _, r1, Nat.le_refl _, by unfold maxLen; omega, rfl, rfl⟩⟩
  obtain ⟨v', X, hr, ho, hg, hat⟩ := run_apB1 W1 W.heap.size 0 _ u [] l o1 (hl.below b1) (by unfold LIM at *; omega) hpos (by have := b1.size; omega)
  rw [Nat.zero_add, List.nil_append] at ho
  have bX : Below W.heap.size W X := by
    refine ⟨hg.os.trans b1.os, hg.tape.trans b1.tape, hg.output.trans b1.output, Nat.le_trans b1.size hg.size, fun j hj => (hg.block j (by have := b1.size; omega) (fun e => by simp [Value.ownBlock] at e; omega)).trans (b1.block j hj)⟩
  obtain ⟨g, cap, hv, hgl, hgs⟩ : ∃ g cap, v' = .slice (some ⟨g, 0, none⟩) l.length cap ∧ W.heap.size ≤ g ∧ g < X.heap.size := by
    rcases ho.2 with ⟨h1, h2⟩ | ⟨g, cap, cur, h1, h2, h3, _⟩
    · omega
    · exact ⟨g, cap, h1, h2, (Array.getElem?_eq_some_iff.1 h3).1⟩
  subst hv
  obtain ⟨oa, cp, rfl, h2, h3, h4, h5⟩ := hl
  obtain ⟨u0, hu0⟩ : ∃ u0, (bs l)[0]? = some u0 := ⟨_, List.getElem?_eq_getElem (by rw [bs_len]; exact hpos)⟩
  obtain ⟨ga, oo, rfl, -, -⟩ := h5 0 u0 hu0
  have HF : Hid (X.ownsRow W.heap.size 5 1 (.slice (some ⟨g, 0, none⟩) l.length cap) l.length (bs l) ∧ Below W.heap.size W X ∧ W.heap.size ≤ g ∧ g < X.heap.size) := ⟨ho, bX, hgl, hgs⟩
  rw [← hW1] at hr
  clear hW1 b1 r1 o1 ho hg hat bX hgl hgs h2 h3 h4 h5 hu0 hpos hlim
  have hn := fun w => Lib.run_eql_slice_some_nil (P := Tryd.prog) w (t := 23) ⟨ga, oo, none⟩ l.length cp Tryd.underlying23
  go_enter Tryd.func63, Tryd.ntmps63
  go_wp2
  go_ret
  exact ⟨g, cap, rfl, HF.out⟩
theorem row2 (W : World) (a b : Obj) : ((W.alloc a).alloc b).heap[W.heap.size]? = some a := (heap_alloc_old _ _ (h := by simp)).trans (heap_alloc_new _ _)
theorem row2n (W : World) (a b : Obj) : ((W.alloc a).alloc b).heap[W.heap.size + 1]? = some b := by
  have := heap_alloc_new (W.alloc a) b
  rwa [show (W.alloc a).heap.size = W.heap.size + 1 by simp] at this
theorem below2 (W : World) (a b : Obj) : Below W.heap.size W ((W.alloc a).alloc b) := ((Below.refl _ W).alloc (Nat.le_refl _) _).alloc (by simp) _
set_option maxRecDepth 100000 in
theorem synced_any (Q : Nat → Prop) (c : Array Value) (d : List Nat) (s : Nat) (W : World) (hc : Cn Q W c d s) (hQ : ∀ j, Q j → j < W.heap.size) : Calls Tryd.prog 40 #[.agg c] W fun e w' => ∃ c', e = .returned (.agg c') ∧ Cn Q w' c' d d.length ∧ Below W.heap.size W w' := by
  obtain ⟨p, rfl, hch, hs, hlim⟩ := hc
  have HC : Hid (Ch Q W p d ∧ d.length ≤ LIM) := ⟨hch, hlim⟩
  clear hch hs hlim
  unfold cnA at *
  go_enter Tryd.func40, Tryd.ntmps40
  go_wp2
  refine bodyPost_ret (results_C rfl _ _ (W.heap.size + 1) _ rfl rfl (row2n _ _ _)) rfl ?_
  have b := below2 W (.cells #[.pointer p, .int .i64 (d.length : Int), .int .i64 (d.length : Int)] 88) (.cells #[.pointer p, .int .i64 (d.length : Int), .int .i64 (d.length : Int)] 88)
  exact ⟨_, rfl, ⟨p, rfl, HC.out.1.keep (fun j hj => b.block j (hQ j hj)) (fun _ h => h), Nat.le_refl _, HC.out.2⟩, b⟩
theorem Ch.cut1 {Q : Nat → Prop} {W : World} {p : Option Addr} {d : List Nat} (h : Ch Q W p d) : (p = none ∧ d = []) ∨ ∃ (g : Nat) (ah : Option Addr) (m : Nat) (pre : List Nat), p = some ⟨g, 0, none⟩ ∧ W.cell? ⟨g, 0, none⟩ = some (.pointer ah) ∧ W.cell? ⟨g, 1, none⟩ = some (.int .i64 (m : Int)) ∧ Q g ∧ m < d.length ∧ pre = d.take m ∧ pre.length = m ∧ Ch Q W ah pre ∧ ∀ n : Nat, m < n → n ≤ d.length → Ch Q W (some ⟨g, 0, none⟩) (d.take n) := by
  cases h with
  | nil => exact .inl ⟨rfl, rfl⟩
  | cons g b cap k ah pre D h1 h2 h3 h4 h5 h6 h7 h8 h9 h10 =>
    refine .inr ⟨g, ah, pre.length, pre, rfl, by rw [cell_of_row _ _ _ _ _ _ h3]; rfl, by rw [cell_of_row _ _ _ _ _ _ h3]; rfl, h1, ?_, ?_, rfl, h10, fun n hn hn2 => ?_⟩
    · rw [List.length_append, List.length_take]; omega
    · simp
    · rw [List.take_append, List.take_take, List.take_of_length_le (by omega)]
      rw [List.length_append, List.length_take] at hn2
      exact .cons g b cap (min (n - pre.length) k) ah pre D h1 h2 h3 h4 h5 h6 h7 (by omega) (by omega) h10
end Go.Proofs.YtfimaflglnemdaaDoor.Dev

/- The journal's device: cut, with. -/
namespace Go.Proofs.YtfimaflglnemdaaDoor.Dev
open Go.RowKit
theorem below_cell {W W' : World} (hb : Below W.heap.size W W') {a : Addr} {v : Value} (h : W.cell? a = some v) : W'.cell? a = some v := (World.cell?_of_block (w := W) (a := a) (hb.block a.block (World.block_lt_of_cell? W a h))).trans h
theorem take_min (d : List Nat) (m n : Nat) (h : n ≤ m) : (d.take m).take n = d.take n := by rw [List.take_take, Nat.min_eq_left h]
theorem cn_eq {q : Option Addr} {d : List Nat} {n s t : Nat} (h1 : (d.take n).length = n) (h2 : min s n = t) : #[.pointer q, .int .i64 (n : Int), .int .i64 (t : Int)] = cnA q (d.take n).length (min s n) := by rw [h1, h2]; rfl
set_option maxRecDepth 100000 in
set_option maxHeartbeats 1600000 in
theorem cut_any (Q : Nat → Prop) (c : Array Value) (d : List Nat) (s n : Nat) (W : World) (hc : Cn Q W c d s) (hQ : ∀ j, Q j → j < W.heap.size) (hn : n ≤ d.length) : Calls Tryd.prog 54 #[.agg c, .int .i64 (n : Int)] W fun e w' => ∃ c', e = .returned (.agg c') ∧ Cn Q w' c' (d.take n) (min s n) ∧ Below W.heap.size W w' := by
  obtain ⟨p, rfl, hch, hs, hlim⟩ := hc
  have HC : Hid (Ch Q W p d ∧ d.length ≤ LIM ∧ n ≤ d.length ∧ s ≤ d.length) := ⟨hch, hlim, hn, hs⟩
  clear hch hs hlim hn
  unfold cnA at *
  go_enter Tryd.func54, Tryd.ntmps54
  go_wp2_with fail
  go_loopg [] d.length (fun k wr => ∃ q d', Hid (k = d'.length ∧ Ch Q W q d' ∧ n ≤ d'.length ∧ d'.take n = d.take n) ∧ wr = (W.alloc (.cells #[.pointer q, .int .i64 (d.length : Int), .int .i64 (s : Int)] 88)).alloc (.cells #[.pointer none, .int .i64 0, .int .i64 0] 88))
  case atStart => exact ⟨p, d, ⟨rfl, HC.out.1, HC.out.2.2.1, rfl⟩, rfl⟩
  case round =>
    obtain ⟨q, d', HD, rfl⟩ := hrel
    have b2 : Hid (∀ q s', Below W.heap.size W ((W.alloc (.cells #[.pointer q, .int .i64 s', .int .i64 (s : Int)] 88)).alloc (.cells #[.pointer none, .int .i64 0, .int .i64 0] 88))) := fun q s' => below2 W _ _
    rcases HD.out.2.1.cut1 with ⟨rfl, e0⟩ | ⟨g, ah, m, pre, rfl, c0, c1, hg, hm, hpre, hpl, hah, hall⟩
    · have hn0 : n = 0 := by have := HD.out.2.2.1; rw [e0] at this; simpa using this
      subst hn0
      have HE : Hid (d' = []) := e0
      clear e0
      go_wp2_with fail
      all_goals
        refine bodyPost_ret (results_C rfl _ _ (W.heap.size + 1) _ rfl rfl (row2n _ _ _)) rfl ?_
        refine ⟨_, rfl, ⟨none, ?_, .nil, by simp, by simp⟩, below2 _ _ _⟩
        first
          | (simp [cnA]; done)
          | (obtain rfl : s = 0 := by omega
             simp [cnA])
    · have c0' := below_cell (b2.out (some ⟨g, 0, none⟩) (d.length : Int)) c0
      have c1' := below_cell (b2.out (some ⟨g, 0, none⟩) (d.length : Int)) c1
      have HP : Hid (pre = d'.take m ∧ pre.length = m ∧ Ch Q W ah pre ∧ m < d'.length) := ⟨hpre, hpl, hah, hm⟩
      have HA : Hid _ := hall
      clear c0 c1 hpre hpl hah hm hall
      by_cases hmn : n ≤ m
      · have h1 : (n : Int) ≤ (m : Int) := by omega
        go_wp2_with fail
        go_roundg m
        case measure => have h2 := HD.out.1; have h3 := HP.out.2.2.2; omega
        case rel => exact ⟨ah, pre, ⟨HP.out.2.1.symm, HP.out.2.2.1, by rw [HP.out.2.1]; exact hmn, by rw [HP.out.1, take_min _ _ _ hmn]; exact HD.out.2.2.2⟩, rfl⟩
      · have h1 : ¬ (n : Int) ≤ (m : Int) := by omega
        go_wp2_with fail
        all_goals
          refine bodyPost_ret (results_C rfl _ _ (W.heap.size + 1) _ rfl rfl (row2n _ _ _)) rfl ?_
          have b := below2 W
          have hl : (d.take n).length = n := by rw [List.length_take]; have := HC.out.2.2.1; omega
          refine ⟨_, rfl, ⟨some ⟨g, 0, none⟩, cn_eq hl (by omega), ?_, by rw [hl]; omega, by rw [hl]; have := HC.out; omega⟩, b _ _⟩
          rw [← HD.out.2.2.2]
          exact (HA.out n (by omega) HD.out.2.2.1).keep (fun j hj => (b _ _).block j (hQ j hj)) (fun _ h => h)
set_option maxRecDepth 100000 in
theorem with_none (Q : Nat → Prop) (c : Array Value) (d : List Nat) (s : Nat) (u : Value) (l : List Nat) (W : World) (hc : Cn Q W c d s) (hQ : ∀ j, Q j → j < W.heap.size) (hl : Bl W u l) (hlim2 : d.length + l.length ≤ LIM) (h0 : l.length = 0) : Calls Tryd.prog 39 #[.agg c, u] W fun e w' => ∃ c', e = .returned (.agg c') ∧ Cn (fun g => Q g ∨ W.heap.size ≤ g ∧ g < w'.heap.size) w' c' (d ++ l) s ∧ Below W.heap.size W w' := by
  obtain ⟨p, rfl, hch, hs, hlim⟩ := hc
  have HC : Hid (Ch Q W p d ∧ d.length + l.length ≤ LIM ∧ s ≤ d.length ∧ Byt l) := ⟨hch, hlim2, hs, by obtain ⟨_, _, _, _, _, h, _⟩ := hl; exact h⟩
  obtain rfl : l = [] := List.length_eq_zero_iff.1 h0
  obtain ⟨oa, cap, rfl, -⟩ := hl
  clear hch hs hlim hlim2 h0
  unfold cnA at *
  simp only [List.length_nil]
  go_enter Tryd.func39, Tryd.ntmps39
  go_wp2_with fail
  refine bodyPost_ret (results_C rfl _ _ (W.heap.size + 1) _ rfl rfl (row2n _ _ _)) rfl ?_
  have b := below2 W
  refine ⟨_, rfl, ⟨p, by rw [List.append_nil]; rfl, ?_, by rw [List.append_nil]; exact HC.out.2.2.1, by rw [List.append_nil]; have := HC.out.2.1; omega⟩, b _ _⟩
  rw [List.append_nil]
  exact HC.out.1.keep (fun j hj => (b _ _).block j (hQ j hj)) (fun _ h => .inl h)
theorem LIM_lt {a b : Nat} (h : a + b ≤ LIM) : a + b < 9223372036854775807 := by unfold LIM at h; omega
/-- The worlds behind the new chunk. -/
theorem wf_after (W W1 X : World) (p : Option Addr) (n s m g cp : Nat) (r0 : W1.heap[W.heap.size]? = some (.cells (cnA p n s) 88 (0, 0))) (r1 : W1.heap[W.heap.size + 1]? = some (.cells zC 88 (0, 0))) (hb : Below W1.drew.heap.size W1.drew X) (N : Nat) (hN : n + m = N) (hl : n + m < 9223372036854775807) :
    X.cell? ⟨W.heap.size, 0, none⟩ = some (.pointer p) ∧ X.cell? ⟨W.heap.size, 1, none⟩ = some (.int .i64 (n : Int)) ∧
    (X.alloc (.cells #[.pointer p, .int .i64 (n : Int), .slice (some ⟨g, 0, none⟩) m cp] 120)).cell? ⟨W.heap.size, 0, none⟩ = some (.pointer p) ∧
    (X.alloc (.cells #[.pointer p, .int .i64 (n : Int), .slice (some ⟨g, 0, none⟩) m cp] 120)).frozen? ⟨W.heap.size, 0, none⟩ = false ∧
    ((X.alloc (.cells #[.pointer p, .int .i64 (n : Int), .slice (some ⟨g, 0, none⟩) m cp] 120)).setCell ⟨W.heap.size, 0, none⟩ (.pointer (some ⟨X.heap.size, 0, none⟩))).cell? ⟨W.heap.size, 1, none⟩ = some (.int .i64 (n : Int)) ∧
    ((X.alloc (.cells #[.pointer p, .int .i64 (n : Int), .slice (some ⟨g, 0, none⟩) m cp] 120)).setCell ⟨W.heap.size, 0, none⟩ (.pointer (some ⟨X.heap.size, 0, none⟩))).frozen? ⟨W.heap.size, 1, none⟩ = false ∧
    IntKind.i64.wrap ((n : Int) + (m : Int)) = (N : Int) ∧
    (ldC (.pointer (some ⟨W.heap.size, 0, none⟩))).run Tryd.prog (((X.alloc (.cells #[.pointer p, .int .i64 (n : Int), .slice (some ⟨g, 0, none⟩) m cp] 120)).setCell ⟨W.heap.size, 0, none⟩ (.pointer (some ⟨X.heap.size, 0, none⟩))).setCell ⟨W.heap.size, 1, none⟩ (.int .i64 (N : Int))) = .ok (.agg (cnA (some ⟨X.heap.size, 0, none⟩) N s)) (((X.alloc (.cells #[.pointer p, .int .i64 (n : Int), .slice (some ⟨g, 0, none⟩) m cp] 120)).setCell ⟨W.heap.size, 0, none⟩ (.pointer (some ⟨X.heap.size, 0, none⟩))).setCell ⟨W.heap.size, 1, none⟩ (.int .i64 (N : Int))) ∧
    (stC (.pointer (some ⟨W.heap.size + 1, 0, none⟩)) (.agg (cnA (some ⟨X.heap.size, 0, none⟩) N s))).run Tryd.prog (((X.alloc (.cells #[.pointer p, .int .i64 (n : Int), .slice (some ⟨g, 0, none⟩) m cp] 120)).setCell ⟨W.heap.size, 0, none⟩ (.pointer (some ⟨X.heap.size, 0, none⟩))).setCell ⟨W.heap.size, 1, none⟩ (.int .i64 (N : Int))) = .ok () ((((X.alloc (.cells #[.pointer p, .int .i64 (n : Int), .slice (some ⟨g, 0, none⟩) m cp] 120)).setCell ⟨W.heap.size, 0, none⟩ (.pointer (some ⟨X.heap.size, 0, none⟩))).setCell ⟨W.heap.size, 1, none⟩ (.int .i64 (N : Int))).setRow (W.heap.size + 1) (cnA (some ⟨X.heap.size, 0, none⟩) N s)) ∧
    Hid (∃ w', w' = ((((X.alloc (.cells #[.pointer p, .int .i64 (n : Int), .slice (some ⟨g, 0, none⟩) m cp] 120)).setCell ⟨W.heap.size, 0, none⟩ (.pointer (some ⟨X.heap.size, 0, none⟩))).setCell ⟨W.heap.size, 1, none⟩ (.int .i64 (N : Int))).setRow (W.heap.size + 1) (cnA (some ⟨X.heap.size, 0, none⟩) N s)) ∧ w'.heap[W.heap.size + 1]? = some (.cells (cnA (some ⟨X.heap.size, 0, none⟩) N s) 88 (0, 0)) ∧ w'.heap[X.heap.size]? = some (.cells #[.pointer p, .int .i64 (n : Int), .slice (some ⟨g, 0, none⟩) m cp] 120 (0, 0)) ∧ w'.heap.size = X.heap.size + 1 ∧ (∀ j, j < X.heap.size → j ≠ W.heap.size → j ≠ W.heap.size + 1 → w'.heap[j]? = X.heap[j]?) ∧ w'.os = X.os ∧ w'.tape = X.tape ∧ w'.output = X.output) := by
  have hz1 : W.heap.size + 1 < W1.heap.size := (Array.getElem?_eq_some_iff.1 r1).1
  have hzX : W1.heap.size ≤ X.heap.size := hb.size
  have s0 : X.heap[W.heap.size]? = some (.cells (cnA p n s) 88 (0, 0)) := (hb.block _ (by show W.heap.size < W1.heap.size; omega)).trans r0
  have s1 : X.heap[W.heap.size + 1]? = some (.cells zC 88 (0, 0)) := (hb.block _ (by show W.heap.size + 1 < W1.heap.size; omega)).trans r1
  obtain ⟨X1, hX1⟩ : ∃ X1, X.alloc (.cells #[.pointer p, .int .i64 (n : Int), .slice (some ⟨g, 0, none⟩) m cp] 120) = X1 := ⟨_, rfl⟩
  have t0 : X1.heap[W.heap.size]? = some (.cells (cnA p n s) 88 (0, 0)) := by rw [← hX1]; exact (heap_alloc_old _ _ (h := by omega)).trans s0
  have t1 : X1.heap[W.heap.size + 1]? = some (.cells zC 88 (0, 0)) := by rw [← hX1]; exact (heap_alloc_old _ _ (h := by omega)).trans s1
  have t2 : X1.heap[X.heap.size]? = some (.cells #[.pointer p, .int .i64 (n : Int), .slice (some ⟨g, 0, none⟩) m cp] 120 (0, 0)) := by rw [← hX1]; exact heap_alloc_new _ _
  obtain ⟨X2, hX2⟩ : ∃ X2, X1.setCell ⟨W.heap.size, 0, none⟩ (.pointer (some ⟨X.heap.size, 0, none⟩)) = X2 := ⟨_, rfl⟩
  have u0 : X2.heap[W.heap.size]? = some (.cells (cnA (some ⟨X.heap.size, 0, none⟩) n s) 88 (0, 0)) := by rw [← hX2]; exact heap_setCell_same _ _ _ _ _ _ t0
  obtain ⟨X3, hX3⟩ : ∃ X3, X2.setCell ⟨W.heap.size, 1, none⟩ (.int .i64 (N : Int)) = X3 := ⟨_, rfl⟩
  have v0 : X3.heap[W.heap.size]? = some (.cells (cnA (some ⟨X.heap.size, 0, none⟩) N s) 88 (0, 0)) := by rw [← hX3]; exact heap_setCell_same _ _ _ _ _ _ u0
  have v1 : X3.heap[W.heap.size + 1]? = some (.cells zC 88 (0, 0)) := by rw [← hX3, ← hX2]; exact ((heap_setCell_other _ _ _ _ (by show W.heap.size + 1 ≠ W.heap.size; omega)).trans (heap_setCell_other _ _ _ _ (by show W.heap.size + 1 ≠ W.heap.size; omega))).trans t1
  have oth : ∀ j, j ≠ W.heap.size → X3.heap[j]? = X1.heap[j]? := fun j hj => by rw [← hX3, ← hX2]; exact (heap_setCell_other _ _ _ _ (by show j ≠ W.heap.size; exact hj)).trans (heap_setCell_other _ _ _ _ (by show j ≠ W.heap.size; exact hj))
  rw [hX1, hX2, hX3]
  refine ⟨by rw [cell_of_row _ _ _ _ _ _ s0]; rfl, by rw [cell_of_row _ _ _ _ _ _ s0]; rfl, by rw [cell_of_row _ _ _ _ _ _ t0]; rfl, frozen_of_row _ _ _ _ _ t0, by rw [cell_of_row _ _ _ _ _ _ u0]; rfl, frozen_of_row _ _ _ _ _ u0, by rw [IntKind.wrap_i64]; omega, ld_Crow _ _ _ rfl v0, st_C _ _ zC _ rfl rfl (by simp [cnA, Value.oneCell']) v1, ⟨_, rfl, setRow_heap _ _ _ _ _ _ v1, ?_, ?_, ?_, ?_⟩⟩
  · exact (setRow_other _ _ _ _ (by omega)).trans ((oth _ (by omega)).trans t2)
  · rw [setRow_size, ← hX3, ← hX2, ← hX1]; simp
  · intro j hj h1 h2
    refine (setRow_other _ _ _ _ h2).trans ((oth j h1).trans ?_)
    rw [← hX1]
    exact heap_alloc_old _ _ (h := hj)
  · have b3 : Below 0 X X3 := by rw [← hX3, ← hX2, ← hX1]; exact (((Below.refl 0 X).alloc (Nat.zero_le _) _).setCell (Nat.zero_le _) _).setCell (Nat.zero_le _) _
    exact ⟨b3.os, b3.tape, b3.output⟩
theorem with_fin (W W1 X w' : World) (p : Option Addr) (d l : List Nat) (s g cp N : Nat) {Q : Nat → Prop} (hN : d.length + l.length = N) (hch : Ch Q W p d) (hlim : d.length + l.length ≤ LIM) (hs : s ≤ d.length) (hby : Byt l) (hQ : ∀ j, Q j → j < W.heap.size) (bW : Below W.heap.size W W1) (ho : X.ownsRow W1.drew.heap.size 5 1 (.slice (some ⟨g, 0, none⟩) l.length cp) l.length (bs l)) (hb : Below W1.drew.heap.size W1.drew X) (hg1 : W1.drew.heap.size ≤ g) (hg2 : g < X.heap.size)
    (hz1 : W.heap.size + 1 < W1.heap.size) (hpos : 0 < l.length) (e2 : w'.heap[X.heap.size]? = some (.cells #[.pointer p, .int .i64 (d.length : Int), .slice (some ⟨g, 0, none⟩) l.length cp] 120 (0, 0))) (e3 : w'.heap.size = X.heap.size + 1) (e4 : ∀ j, j < X.heap.size → j ≠ W.heap.size → j ≠ W.heap.size + 1 → w'.heap[j]? = X.heap[j]?) (e5 : w'.os = X.os ∧ w'.tape = X.tape ∧ w'.output = X.output) :
    ∃ c', Ending.returned (.agg #[.pointer (some ⟨X.heap.size, 0, none⟩), .int .i64 (N : Int), .int .i64 (s : Int)]) = .returned (.agg c') ∧ Cn (fun g => Q g ∨ W.heap.size ≤ g ∧ g < w'.heap.size) w' c' (d ++ l) s ∧ Below W.heap.size W w' := by
  have hzX : W1.heap.size ≤ X.heap.size := hb.size
  have hg1' : W1.heap.size ≤ g := hg1
  have bl : Below W.heap.size W w' := by
    refine ⟨e5.1.trans (hb.os.trans bW.os), e5.2.1.trans (hb.tape.trans bW.tape), e5.2.2.trans (hb.output.trans bW.output), by omega, fun j hj => ?_⟩
    exact (e4 j (by omega) (by omega) (by omega)).trans ((hb.block j (by show j < W1.heap.size; omega)).trans (bW.block j hj))
  refine ⟨_, rfl, ⟨some ⟨X.heap.size, 0, none⟩, by rw [List.length_append, hN]; rfl, ?_, by rw [List.length_append]; omega, by rw [List.length_append]; exact hlim⟩, bl⟩
  have hc := hch.keep (Q' := fun g => Q g ∨ W.heap.size ≤ g ∧ g < w'.heap.size) (W' := w') (fun j hj => bl.block j (hQ j hj)) (fun _ h => .inl h)
  rcases ho.2 with ⟨h1, _⟩ | ⟨g', cap, cur, h1, h2, h3, h4, h5, h6, h7⟩
  · cases h1
  · injection h1 with q1 q2 q3
    injection q1 with q1
    injection q1 with q1
    subst q1 q3
    have := Ch.cons (Q := fun g => Q g ∨ W.heap.size ≤ g ∧ g < w'.heap.size) (W := w') X.heap.size g cp l.length p d l (.inr ⟨by omega, by omega⟩) (.inr ⟨by omega, by omega⟩) e2 h4 h5 (fun j u hu => ?_) hby hpos (Nat.le_refl _) hc
    · rwa [List.take_length] at this
    · have hj : j < l.length := by have := (List.getElem?_eq_some_iff.1 hu).1; rwa [bs_len] at this
      have hrow : w'.heap[g]? = some (.cells cur 5 (0, 0)) := (e4 g hg2 (by omega) (by omega)).trans h3
      rw [cell_of_row _ _ _ _ _ _ hrow]
      have e : cur.toList[j]? = some u := by
        rw [← hu, ← h7, Nat.mul_one, List.getElem?_take_of_lt hj]
      simpa using e
section
attribute [local go_sem ↓] toLdC toStC Go.wp_at_zero Go.wp_at_succ
set_option maxRecDepth 100000 in
set_option maxHeartbeats 1600000 in
theorem with_some (Q : Nat → Prop) (c : Array Value) (d : List Nat) (s : Nat) (u : Value) (l : List Nat) (W : World) (hc : Cn Q W c d s) (hQ : ∀ j, Q j → j < W.heap.size) (hl : Bl W u l) (hlim2 : d.length + l.length ≤ LIM) (h0 : ¬ l.length = 0) : Calls Tryd.prog 39 #[.agg c, u] W fun e w' => ∃ c', e = .returned (.agg c') ∧ Cn (fun g => Q g ∨ W.heap.size ≤ g ∧ g < w'.heap.size) w' c' (d ++ l) s ∧ Below W.heap.size W w' := by
  obtain ⟨p, rfl, hch, hs, hlim⟩ := hc
  have HC : Hid (Ch Q W p d ∧ d.length + l.length ≤ LIM ∧ s ≤ d.length ∧ Byt l) := ⟨hch, hlim2, hs, by obtain ⟨_, _, _, _, _, h, _⟩ := hl; exact h⟩
  obtain ⟨W1, hW1⟩ : ∃ W1, (W.alloc (.cells (cnA p d.length s) 88)).alloc (.cells zC 88) = W1 := ⟨_, rfl⟩
  have bW : Below W.heap.size W W1 := by rw [← hW1]; exact below2 _ _ _
  have r0 : W1.heap[W.heap.size]? = some (.cells (cnA p d.length s) 88 (0, 0)) := by rw [← hW1]; exact row2 _ _ _
  have r1 : W1.heap[W.heap.size + 1]? = some (.cells zC 88 (0, 0)) := by rw [← hW1]; exact row2n _ _ _
  have C : Hid _ := clone_any u l W1.drew (hl.below (W' := W1.drew) ⟨bW.os, bW.tape, bW.output, bW.size, bW.block⟩) (by omega) (by omega)
  obtain ⟨oa, cap, rfl, -⟩ := id hl
  have hpos : (0 : Int) < (l.length : Int) := by omega
  have HW : Hid ((W.alloc (.cells (cnA p d.length s) 88)).alloc (.cells zC 88) = W1) := hW1
  have HR : Hid (W1.heap[W.heap.size]? = some (.cells (cnA p d.length s) 88 (0, 0)) ∧ W1.heap[W.heap.size + 1]? = some (.cells zC 88 (0, 0)) ∧ Below W.heap.size W W1) := ⟨r0, r1, bW⟩
  have a0 : W1.drew.cell? ⟨W.heap.size, 0, none⟩ = some (.pointer p) := by show W1.cell? _ = _; rw [cell_of_row _ _ _ _ _ _ r0]; rfl
  have a1 : W1.drew.cell? ⟨W.heap.size, 1, none⟩ = some (.int .i64 (d.length : Int)) := by show W1.cell? _ = _; rw [cell_of_row _ _ _ _ _ _ r0]; rfl
  clear hW1 r0 r1 bW hch hs hlim hlim2 h0 hl
  unfold cnA zC at *
  go_enter Tryd.func39, Tryd.ntmps39
  obtain ⟨N, hN⟩ : ∃ N, d.length + l.length = N := ⟨_, rfl⟩
  have HN : Hid (d.length + l.length = N) := hN
  clear hN
  go_upto_region 2 with fail
  rw [HW.out]
  go_region_with (go_at_call 63; refine Calls.mono C.out ?_; rintro e X ⟨g, cp, rfl, ho, hb, hg1, hg2⟩; have HO : Hid (X.ownsRow W1.drew.heap.size 5 1 (.slice (some ⟨g, 0, none⟩) l.length cp) l.length (bs l) ∧ Below W1.drew.heap.size W1.drew X ∧ W1.drew.heap.size ≤ g ∧ g < X.heap.size) := ⟨ho, hb, hg1, hg2⟩; have hwf := wf_after W W1 X p d.length s l.length g cp HR.out.1 HR.out.2.1 hb N HN.out (LIM_lt HC.out.2.1); clear ho hb hg1 hg2; obtain ⟨x0, x1, x2, x3, x4, x5, x6, x7, x8, x9⟩ := hwf; unfold cnA at *)
  all_goals
    go_wp2_with fail
    obtain ⟨w', hw, e1, e2, e3, e4, e5, e6, e7⟩ := x9.out
    rw [← hw]
    refine bodyPost_ret (results_C rfl _ _ (W.heap.size + 1) _ rfl rfl e1) rfl ?_
    exact with_fin W W1 X w' p d l s g cp N HN.out HC.out.1 HC.out.2.1 HC.out.2.2.1 HC.out.2.2.2 hQ HR.out.2.2 HO.out.1 HO.out.2.1 HO.out.2.2.1 HO.out.2.2.2 (Array.getElem?_eq_some_iff.1 HR.out.2.1).1 (by omega) e2 e3 e4 ⟨e5, e6, e7⟩
end
theorem with_any (Q : Nat → Prop) (c : Array Value) (d : List Nat) (s : Nat) (u : Value) (l : List Nat) (W : World) (hc : Cn Q W c d s) (hQ : ∀ j, Q j → j < W.heap.size) (hl : Bl W u l) (hlim2 : d.length + l.length ≤ LIM) : Calls Tryd.prog 39 #[.agg c, u] W fun e w' => ∃ c', e = .returned (.agg c') ∧ Cn (fun g => Q g ∨ W.heap.size ≤ g ∧ g < w'.heap.size) w' c' (d ++ l) s ∧ Below W.heap.size W w' := by
  by_cases h0 : l.length = 0
  · exact with_none Q c d s u l W hc hQ hl hlim2 h0
  · exact with_some Q c d s u l W hc hQ hl hlim2 h0
end Go.Proofs.YtfimaflglnemdaaDoor.Dev

/- The journal's device: all bytes of a file. -/
namespace Go.Proofs.YtfimaflglnemdaaDoor.Dev
open Go.RowKit
def slB (v : Value) (lo hi mx : Option Value) : Sem Value := Instr.slice 23 v lo hi mx
theorem toSlB (v : Value) (lo hi mx : Option Value) : Instr.slice 23 v lo hi mx = slB v lo hi mx := rfl
def cpB (ty : Nat) (vs : Array Value) : Sem Value := Builtin.copy_ #[23, 23] ty vs
theorem toCpB (ty : Nat) (vs : Array Value) : Builtin.copy_ #[23, 23] ty vs = cpB ty vs := rfl
theorem elemB : Tryd.prog.elem 23 = 5 := by kernel_rfl
theorem uB : Tryd.prog.underlying 23 = some (.slice (Tryd.prog.elem 23)) := by rw [elemB]; exact Tryd.underlying23
theorem size5 : (Tryd.prog.info? 5).map (·.size) = some 1 := by kernel_rfl
theorem run_size5 (w : World) : (sizeOf 5).run Tryd.prog w = .ok 1 w := by
  cases hq : Tryd.prog.info? 5 with
  | none => have := size5; rw [hq] at this; cases this
  | some i =>
    have : i.size = 1 := by have := size5; rw [hq] at this; simpa using this
    simp [sizeOf, typeInfo, hq, this]
theorem run_sl (w : World) (g o n c l h K R : Nat) (h1 : l + K = h) (h2 : h ≤ c) (h3 : l + R = c) (h4 : 0 < R) : (slB (.slice (some ⟨g, o, none⟩) n c) (some (.int .i64 (l : Int))) (some (.int .i64 (h : Int))) none).run Tryd.prog w = .ok (.slice (some ⟨g, o + l, none⟩) K R) w := by
  have := run_slice_lh (P := Tryd.prog) w 23 (some ⟨g, o, none⟩) n c uB .i64 .i64 (l : Int) (h : Int) (by omega) (by omega) (by omega)
  unfold slB
  rw [this, elemB, run_size5]
  have e1 : (⟨g, o, none⟩ : Addr).add (l * 1) = ⟨g, o + l, none⟩ := by rw [Nat.mul_one, Addr.add_mid]
  simp only [Result.andThen, sliced, Int.toNat_natCast, Option.map_some, e1, if_neg (show ¬ c = l by omega), show h - l = K by omega, show c - l = R by omega]
/-- Parts of a chunk. -/
theorem Ch.top {Q : Nat → Prop} {W : World} {p : Option Addr} {d : List Nat} (h : Ch Q W p d) : (p = none ∧ d = []) ∨ ∃ (g b cap : Nat) (ah : Option Addr) (pre D : List Nat) (K : Nat), p = some ⟨g, 0, none⟩ ∧ W.heap[g]? = some (.cells #[.pointer ah, .int .i64 (pre.length : Int), .slice (some ⟨b, 0, none⟩) D.length cap] 120 (0, 0)) ∧ Q g ∧ Q b ∧ (∀ (j : Nat) u, (bs D)[j]? = some u → W.cell? ⟨b, j, none⟩ = some u) ∧ 0 < K ∧ K ≤ D.length ∧ Ch Q W ah pre ∧ d = pre ++ D.take K ∧ pre.length + K = d.length := by
  cases h with
  | nil => exact .inl ⟨rfl, rfl⟩
  | cons g b cap k ah pre D h1 h2 h3 h4 h5 h6 h7 h8 h9 h10 =>
    exact .inr ⟨g, b, cap, ah, pre, D, k, rfl, h3, h1, h2, h6, h8, h9, h10, rfl, by rw [List.length_append, List.length_take]; omega⟩
theorem sp_at (d pre : List Nat) (cur : Array Value) (D : List Nat) (K : Nat) (hd : ∃ t, d = (pre ++ D.take K) ++ t) (hK : K ≤ D.length) (hsz : cur.size = d.length) (hcur : cur.toList.drop (pre.length + K) = (bs d).drop (pre.length + K)) :
    (cur.toList.take pre.length ++ (bs D).take K ++ cur.toList.drop (pre.length + K)).toArray.size = d.length ∧ (cur.toList.take pre.length ++ (bs D).take K ++ cur.toList.drop (pre.length + K)).toArray.toList.drop pre.length = (bs d).drop pre.length := by
  obtain ⟨t, rfl⟩ := hd
  have hsz2 : cur.toList.length = pre.length + K + t.length := by rw [Array.length_toList, hsz, List.length_append, List.length_append, List.length_take]; omega
  have e1 : (cur.toList.take pre.length).length = pre.length := by rw [List.length_take]; omega
  have e4 : (bs (pre ++ D.take K ++ t)).drop (pre.length + K) = bs t := by rw [bs_app]; exact List.drop_left' (by rw [bs_len, List.length_append, List.length_take]; omega)
  have e5 : (bs (pre ++ D.take K ++ t)).drop pre.length = (bs D).take K ++ bs t := by rw [bs_app, bs_app, bs_take, List.append_assoc]; exact List.drop_left' (bs_len _)
  rw [hcur, e4, e5]
  constructor
  · simp only [List.size_toArray, List.length_append, List.length_take, bs_len]
    omega
  · show (cur.toList.take pre.length ++ (bs D).take K ++ bs t).drop pre.length = _
    rw [List.append_assoc]
    exact List.drop_left' e1
attribute [local go_sem ↓] toSlB toCpB
set_option maxRecDepth 100000 in
set_option maxHeartbeats 1600000 in
theorem bytes_any (Q : Nat → Prop) (c : Array Value) (d : List Nat) (s : Nat) (W : World) (hc : Cn Q W c d s) (hQ : ∀ j, Q j → j < W.heap.size) : Calls Tryd.prog 70 #[.agg c] W fun e w' => ∃ g, e = .returned (.slice (some ⟨g, 0, none⟩) d.length d.length) ∧ w'.heap[g]? = some (.cells (bs d).toArray 5 (0, 0)) ∧ W.heap.size ≤ g ∧ Below W.heap.size W w' := by
  obtain ⟨p, rfl, hch, hs, hlim⟩ := hc
  have hmk := run_make_row' (P := Tryd.prog) 23 5 (.int .u8 0) 1 Tryd.underlying23 info5 rfl .i64 .i64 d.length (by unfold LIM at hlim; omega) (by unfold LIM at hlim; omega)
  obtain ⟨W1, hW1⟩ : ∃ W1, (W.alloc (.cells (cnA p d.length s) 88)).alloc (.cells (madeCells #[.int .u8 0] d.length) 5) = W1 := ⟨_, rfl⟩
  have bW : Below W.heap.size W W1 := by rw [← hW1]; exact below2 _ _ _
  have r1 : W1.heap[W.heap.size + 1]? = some (.cells (madeCells #[.int .u8 0] d.length) 5 (0, 0)) := by rw [← hW1]; exact row2n _ _ _
  have hms : (madeCells #[.int .u8 0] d.length).size = d.length := by simp [madeCells]
  have HC : Hid (Ch Q W p d ∧ d.length ≤ LIM) := ⟨hch, hlim⟩
  have HW : Hid ((W.alloc (.cells (cnA p d.length s) 88)).alloc (.cells (madeCells #[.int .u8 0] d.length) 5) = W1) := hW1
  have HB : Hid (Below W.heap.size W W1 ∧ W1.heap[W.heap.size + 1]? = some (.cells (madeCells #[.int .u8 0] d.length) 5 (0, 0)) ∧ (madeCells #[.int .u8 0] d.length).size = d.length) := ⟨bW, r1, hms⟩
  clear hW1 bW r1 hms hch hs hlim
  unfold cnA at *
  go_enter Tryd.func70, Tryd.ntmps70
  go_wp2_with fail
  rw [HW.out]
  go_loopg [4, 5] d.length (fun k ev kv wr => ∃ (q : Option Addr) (d' : List Nat) (E : Nat), kv = .pointer q ∧ ev = .int .i64 (E : Int) ∧ Hid (E = d'.length ∧ k = d'.length ∧ Ch Q W q d' ∧ (∃ t, d = d' ++ t) ∧ Below W.heap.size W wr ∧ ∃ cur, wr.heap[W.heap.size + 1]? = some (.cells cur 5 (0, 0)) ∧ cur.size = d.length ∧ cur.toList.drop d'.length = (bs d).drop d'.length))
  case atStart => exact ⟨p, d, d.length, rfl, rfl, rfl, rfl, HC.out.1, ⟨[], by simp⟩, HB.out.1, _, HB.out.2.1, HB.out.2.2, by rw [List.drop_of_length_le (by rw [Array.length_toList, HB.out.2.2]; exact Nat.le_refl _), List.drop_of_length_le (by rw [bs_len]; exact Nat.le_refl _)]⟩
  case round =>
    obtain ⟨q, d', E, rfl, rfl, HD⟩ := hrel
    obtain ⟨hE, hk, hch, ⟨t, hdt⟩, hbl, cur, hrow, hsz, hdr⟩ := HD.out
    rcases hch.top with ⟨rfl, e0⟩ | ⟨g, b, cap, ah, pre, D, K, rfl, hg, hQg, hQb, hD, hK0, hK1, hah, hd', hlen⟩
    · have HF : Hid (wr.heap[W.heap.size + 1]? = some (.cells (bs d).toArray 5 (0, 0)) ∧ Below W.heap.size W wr) := by
        refine ⟨?_, hbl⟩
        rw [e0] at hdr
        have : cur = (bs d).toArray := by rw [← Array.toArray_toList (xs := cur)]; congr 1
        rw [hrow, this]
      clear hE hk hch hdt hbl hrow hsz hdr e0 HD
      go_wp2_with fail
      go_ret
      exact ⟨W.heap.size + 1, rfl, HF.out.1, by omega, HF.out.2⟩
    · have hgW := (hbl.block g (hQ g hQg)).trans hg
      obtain ⟨M, hM⟩ : ∃ M, M = pre.length := ⟨_, rfl⟩
      rw [← hM] at hgW
      have k0 : wr.drew.cell? ⟨g, 1, none⟩ = some (.int .i64 (M : Int)) := by show wr.cell? _ = _; rw [cell_of_row _ _ _ _ _ _ hgW]; rfl
      have k1 : wr.drew.cell? ⟨g, 2, none⟩ = some (.slice (some ⟨b, 0, none⟩) D.length cap) := by show wr.cell? _ = _; rw [cell_of_row _ _ _ _ _ _ hgW]; rfl
      obtain ⟨R, hR⟩ : ∃ R, M + R = d.length := ⟨d.length - M, by rw [hdt, List.length_append]; omega⟩
      have hEd : E ≤ d.length := by rw [hdt, List.length_append]; omega
      have hsl := fun w => run_sl w (W.heap.size + 1) 0 d.length d.length M E K R (by omega) hEd hR (by omega)
      have hcp := run_copy_row (P := Tryd.prog) wr.drew 23 23 3 5 (W.heap.size + 1) M K R ⟨b, 0, none⟩ D.length cap cur 5 ((bs D).take K) Tryd.underlying23 size5 hrow (by rw [List.length_take, bs_len]; exact (Nat.min_comm _ _).trans rfl) (fun j v hv => by
        have hj : j < K := by have := (List.getElem?_eq_some_iff.1 hv).1; rw [List.length_take] at this; omega
        rw [List.getElem?_take_of_lt hj] at hv
        rw [Addr.add_mid, Nat.zero_add]
        exact (World.cell?_of_block (w := W) (a := ⟨b, j, none⟩) (hbl.block b (hQ b hQb))).trans (hD j v hv)) (by rw [List.length_take, bs_len, hsz]; omega) (fun v hv => bs_one D v (List.mem_of_mem_take hv))
      rw [show ((bs D).take K).length = K by rw [List.length_take, bs_len]; omega] at hcp
      simp only [Nat.zero_add] at hsl
      have hsp := sp_at d pre cur D K ⟨t, by rw [hdt, hd']⟩ hK1 hsz (by rw [hlen]; exact hdr)
      rw [← hM] at hsp
      obtain ⟨X, hX⟩ : ∃ X, wr.drew.setRow (W.heap.size + 1) (cur.toList.take M ++ (bs D).take K ++ cur.toList.drop (M + K)).toArray = X := ⟨_, rfl⟩
      have hgne : g ≠ W.heap.size + 1 := by have := hQ g hQg; omega
      have hgX : X.heap[g]? = some (.cells #[.pointer ah, .int .i64 (M : Int), .slice (some ⟨b, 0, none⟩) D.length cap] 120 (0, 0)) := by rw [← hX]; exact (setRow_other _ _ _ _ hgne).trans hgW
      have k2 : X.cell? ⟨g, 1, none⟩ = some (.int .i64 (M : Int)) := by rw [cell_of_row _ _ _ _ _ _ hgX]; rfl
      have k3 : X.cell? ⟨g, 0, none⟩ = some (.pointer ah) := by rw [cell_of_row _ _ _ _ _ _ hgX]; rfl
      have HX : Hid (M < gk ∧ M = pre.length ∧ Ch Q W ah pre ∧ (∃ t, d = pre ++ t) ∧ Below W.heap.size W X ∧ ∃ cur, X.heap[W.heap.size + 1]? = some (.cells cur 5 (0, 0)) ∧ cur.size = d.length ∧ cur.toList.drop M = (bs d).drop M) := by
        refine ⟨by omega, hM, hah, ⟨D.take K ++ t, by rw [hdt, hd', List.append_assoc]⟩, ?_, _, ?_, hsp.1, hsp.2⟩
        · rw [← hX]; exact below_setRow (w := wr.drew) ⟨hbl.os, hbl.tape, hbl.output, hbl.size, hbl.block⟩ (by omega) _
        · rw [← hX]; exact setRow_heap wr.drew _ cur _ _ _ hrow
      rw [hX] at hcp
      have hcp2 : (cpB 3 #[.slice (some ⟨W.heap.size + 1, M, none⟩) K R, .slice (some ⟨b, 0, none⟩) D.length cap]).run Tryd.prog wr.drew = .ok (goInt K) X := hcp
      clear hE hk hch hdt hbl hrow hsz hdr HD hg hQg hQb hD hK0 hK1 hah hd' hlen hgW hM hR hEd hcp hsp hX hgX hgne hmk
      go_wp2_with fail
      go_region
      go_wp2_with fail
      go_roundg M
      case measure => exact HX.out.1
      case rel =>
        obtain ⟨e1, e2, e3, e4, e5, cur, e6, e7, e8⟩ := HX.out
        exact ⟨ah, pre, M, rfl, rfl, e2, e2, e3, e4, e5, cur, e6, e7, by rw [← e2]; exact e8⟩
end Go.Proofs.YtfimaflglnemdaaDoor.Dev
