/- JournalReplays: rules. -/
import Derived.Test.YtfimaflglnemdaaDoorJrD
import Derived.Deep.MidRow
namespace Go.Proofs.YtfimaflglnemdaaDoor
open Go.RowKit
structure Ru where
  kind : Nat
  least : Nat
  most : Nat
  short : Nat
  long : Nat
def Ru.arr (u : Ru) : Array Value := #[.int .u8 (u.kind : Int), .int .u64 (u.least : Int), .int .u64 (u.most : Int), .int .i64 (u.short : Int), .int .i64 (u.long : Int)]
def Ru.val (u : Ru) : Value := .agg u.arr
/-- Does a rule let a record stand? -/
def Ru.ok (u : Ru) (k n l : Nat) : Bool := decide (k = u.kind) && decide (u.least ≤ n) && decide (n ≤ u.most) && decide (u.short ≤ l) && decide (l ≤ u.long)
def rcA (k n l : Nat) (b : Value) : Array Value := #[.int .u8 (k : Int), .int .u64 (n : Int), .int .i64 (l : Int), b]
theorem sizeU : (Tryd.prog.info? 145).map (·.size) = some 5 := by kernel_rfl
theorem results_U {fn : Func} {p : Tmp} (h : fn.results = #[.cell p 145]) (tmps : Array Value) (w : World) (g : Nat) (C : Array Value) (hC : C.size = 5)
    (hp : tmps.getD p undef = .pointer (some ⟨g, 0, none⟩)) (hg : w.heap[g]? = some (.cells C 145 (0, 0))) :
    (results fn tmps).run Tryd.prog w = .ok (.agg C) w := by
  have hp' : tmps[p]?.getD undef = .pointer (some ⟨g, 0, none⟩) := by simpa using hp
  simp [results, h, hp', asAddr, run_loadVar_row w g 145 145 C (0, 0) _ hg Tryd.underlying145 rfl (by rw [hC]; kernel_rfl)]
theorem row2 (W : World) (a b : Obj) : ((W.alloc a).alloc b).heap[W.heap.size]? = some a := (heap_alloc_old _ _ (h := by simp)).trans (heap_alloc_new _ _)
theorem row2n (W : World) (a b : Obj) : ((W.alloc a).alloc b).heap[W.heap.size + 1]? = some b := by
  have := heap_alloc_new (W.alloc a) b
  rwa [show (W.alloc a).heap.size = W.heap.size + 1 by simp] at this
theorem below2 (W : World) (a b : Obj) : Below W.heap.size W ((W.alloc a).alloc b) := ((Below.refl _ W).alloc (Nat.le_refl _) _).alloc (by simp) _
set_option maxRecDepth 100000 in
set_option maxHeartbeats 1600000 in
theorem bodyRule_any (k n : Nat) (hn : n ≤ 1000000) (W : World) : Calls Tryd.prog 80 #[.int .u8 (k : Int), .int .i64 (n : Int)] W fun e w' => e = .returned (Ru.val ⟨k, n, min n 8191, 0, 2097152⟩) ∧ Below W.heap.size W w' ∧ w'.drawn = W.drawn := by
  have hw : IntKind.u64.wrap (n : Int) = (n : Int) := by rw [IntKind.wrap_u64]; omega
  go_enter Tryd.func80, Tryd.ntmps80
  go_wp2
  · refine bodyPost_ret (results_U rfl _ _ W.heap.size _ rfl rfl (heap_alloc_new _ _)) rfl ?_
    exact ⟨by rw [Ru.val, Ru.arr, show min n 8191 = 8191 by omega]; rfl, (Below.refl _ W).alloc (Nat.le_refl _) _, rfl⟩
  · refine bodyPost_ret (results_U rfl _ _ W.heap.size _ rfl rfl (heap_alloc_new _ _)) rfl ?_
    exact ⟨by rw [Ru.val, Ru.arr, show min n 8191 = n by omega]; rfl, (Below.refl _ W).alloc (Nat.le_refl _) _, rfl⟩
set_option maxRecDepth 100000 in
set_option maxHeartbeats 1600000 in
theorem obeys_any (u : Ru) (k n l : Nat) (b : Value) (W : World) : Calls Tryd.prog 84 #[.agg (rcA k n l b), u.val] W fun e w' => e = .returned (.bool (u.ok k n l)) ∧ Below W.heap.size W w' ∧ w'.drawn = W.drawn := by
  obtain ⟨uk, ul, um, us, ug⟩ := u
  unfold Ru.val Ru.arr rcA
  go_enter Tryd.func84, Tryd.ntmps84
  go_wp2
  all_goals go_ret
  all_goals refine ⟨?_, below2 _ _ _, rfl⟩
  all_goals unfold Ru.ok
  all_goals congr 2
  all_goals simp_all
  all_goals (intros; omega)
/-- Rules as they lie. -/
def Rul (W : World) (v : Value) (us : List Ru) : Prop := ∃ g o cap, v = .slice (some ⟨g, o, none⟩) us.length cap ∧ g < W.heap.size ∧ ∀ i u, us[i]? = some u → W.rangeAt g (o + i * 5) u.arr.toList
theorem Rul.below {W W' : World} {v : Value} {us : List Ru} (h : Rul W v us) (hb : Below W.heap.size W W') : Rul W' v us := by
  obtain ⟨g, o, cap, e, hg, hr⟩ := h
  exact ⟨g, o, cap, e, Nat.lt_of_lt_of_le hg hb.size, fun i u hu j x hx => (World.cell?_of_block (w := W) (a := ⟨g, o + i * 5 + j, none⟩) (hb.block g hg)).trans (hr i u hu j x hx)⟩
def ldU (p : Value) : Sem Value := Instr.loadAt 145 p
theorem toLdU (p : Value) : Instr.loadAt 145 p = ldU p := rfl
theorem ld_U (w : World) (g o : Nat) (c : Array Value) (hc : c.size = 5) (h : w.rangeAt g o c.toList) : (ldU (.pointer (some ⟨g, o, none⟩))).run Tryd.prog w = .ok (.agg c) w := by
  have := run_loadAt_mid (P := Tryd.prog) w g o 145 c.toList _ h Tryd.underlying145 rfl (by rw [sizeU]; simp [hc])
  simpa [ldU] using this
def hasR (us : List Ru) (k n l : Nat) : Bool := us.any (·.ok k n l)
theorem hasR_nil (k n l : Nat) : hasR [] k n l = false := rfl
theorem hasR_take {us : List Ru} {i : Nat} {u : Ru} (h : us[i]? = some u) (k n l : Nat) : hasR (us.take (i + 1)) k n l = (hasR (us.take i) k n l || u.ok k n l) := by
  unfold hasR
  rw [List.take_add_one, h]
  simp
theorem hasR_get {us : List Ru} {i : Nat} {u : Ru} (h : us[i]? = some u) (k n l : Nat) (ho : u.ok k n l = true) : hasR us k n l = true := by
  unfold hasR
  exact List.any_eq_true.2 ⟨u, List.mem_of_getElem? h, ho⟩
/-- The method of a record. -/
def obV (k n l : Nat) (b : Value) : Value := .func (.func 84) #[.agg (rcA k n l b)] #[]
attribute [local go_sem ↓] toLdU in
set_option maxRecDepth 100000 in
set_option maxHeartbeats 1600000 in
theorem idx_any (us : List Ru) (hl : us.length ≤ 1000) (k n l : Nat) (b v : Value) (W : World) (hv : Rul W v us) : Calls Tryd.prog 85 #[v, obV k n l b] W fun e w' => (∃ i : Int, e = .returned (.int .i64 i) ∧ Hid (decide (0 ≤ i) = hasR us k n l)) ∧ Below W.heap.size W w' ∧ w'.drawn = W.drawn := by
  obtain ⟨g, o, cap, rfl, hg, hr⟩ := hv
  have HR : Hid (∀ i u, us[i]? = some u → W.rangeAt g (o + i * 5) u.arr.toList) := hr
  clear hr
  unfold obV
  go_enter Tryd.func85, Tryd.ntmps85
  go_wp2_with fail
  go_loopw [8] (fun iv wr => ∃ i : Nat, iv = .int .i64 (i : Int) ∧ i ≤ us.length ∧ Hid (Below W.heap.size W wr ∧ wr.drawn = W.drawn ∧ hasR (us.take i) k n l = false)) (fun iv _ => us.length - (intOf iv).toNat)
  case atStart => exact ⟨0, rfl, by omega, Below.refl _ _, rfl, rfl⟩
  case round =>
    obtain ⟨i, rfl, hi, HB⟩ := hrel
    by_cases hlt : i < us.length
    · obtain ⟨u, hu⟩ : ∃ u, us[i]? = some u := ⟨us[i], by simp [hlt]⟩
      have hL : (ldU (.pointer (some ⟨g, o + i * 5, none⟩))).run Tryd.prog wr = .ok u.val wr := ld_U wr g _ _ rfl (fun j x hx => (World.cell?_of_block (w := W) (a := ⟨g, o + i * 5 + j, none⟩) (HB.out.1.block g hg)).trans (HR.out i u hu j x hx))
      have i0 : (0 : Int) ≤ (i : Int) := by omega
      have i1 : (i : Int) < (us.length : Int) := by omega
      have C := fun W => obeys_any u k n l b W
      go_wp2_with fail
      refine (C wr).mono ?_
      rintro e w' ⟨rfl, hb, hd⟩
      dsimp only
      clear C
      have hB2 : Below W.heap.size W w' := HB.out.1.trans (hb.mono HB.out.1.size)
      cases ho : u.ok k n l with
      | true =>
        have HE := hasR_get hu k n l ho
        clear hb hL
        go_wp2_with fail
        go_ret
        exact ⟨⟨i, rfl, by show _ = _; rw [HE]; simp⟩, hB2, hd.trans HB.out.2.1⟩
      | false =>
        have HE : Hid (hasR (us.take (i + 1)) k n l = false) := by show _ = _; rw [hasR_take hu, HB.out.2.2, ho]; rfl
        have hd2 := hd.trans HB.out.2.1
        clear hb hL
        go_wp2_with fail
        exact ⟨⟨i + 1, by simp, by omega, hB2, hd2, HE.out⟩, by simp only [intOf]; omega⟩
    · have i1 : ¬ (i : Int) < (us.length : Int) := by omega
      have HE : Hid (hasR us k n l = false) := by
        show _ = _
        have := HB.out.2.2
        rwa [List.take_of_length_le (by omega)] at this
      go_wp2_with fail
      go_ret
      exact ⟨⟨-1, rfl, by show _ = _; rw [HE.out]; simp⟩, HB.out.1, HB.out.2.1⟩
set_option maxRecDepth 100000 in
theorem has_any (us : List Ru) (hl : us.length ≤ 1000) (k n l : Nat) (b v : Value) (W : World) (hv : Rul W v us) : Calls Tryd.prog 83 #[v, obV k n l b] W fun e w' => e = .returned (.bool (hasR us k n l)) ∧ Below W.heap.size W w' ∧ w'.drawn = W.drawn := by
  have C := idx_any us hl k n l b v W hv
  clear hv
  generalize obV k n l b = f at *
  go_enter Tryd.func83, Tryd.ntmps83
  go_wp2_with fail
  refine C.mono ?_
  rintro e w' ⟨⟨i, rfl, HI⟩, hb, hd⟩
  dsimp only
  go_wp2_with fail
  go_ret
  exact ⟨by rw [← HI.out]; rfl, hb, hd⟩
end Go.Proofs.YtfimaflglnemdaaDoor
