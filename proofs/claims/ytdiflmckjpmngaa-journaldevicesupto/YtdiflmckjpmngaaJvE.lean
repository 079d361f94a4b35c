/- The journal's device: moments, at, disk. -/
import Derived.Test.YtdiflmckjpmngaaJvD
namespace Go.Proofs.Ytdiflmckjpmngaa
open Go.RowKit
/-- Blocks that a device keeps off: what lies in the hole may be written over. -/
structure HoleT where
  p : Nat → Prop
  b : Nat
  ok : ∀ g, b ≤ g → ¬ p g
def inHole [Inhabited HoleT] (g : Nat) : Prop := (default : HoleT).p g
def holeB [Inhabited HoleT] : Nat := (default : HoleT).b
theorem hole_ok [Inhabited HoleT] {g : Nat} (h : holeB ≤ g) : ¬ inHole g := (default : HoleT).ok g h
abbrev Sp := (List Nat × Nat) × (List Nat × Nat)
def momA (p0 : Option Addr) (n0 s0 : Nat) (p1 : Option Addr) (n1 s1 : Nat) : Array Value := #[.pointer p0, .int .i64 (n0 : Int), .int .i64 (s0 : Int), .pointer p1, .int .i64 (n1 : Int), .int .i64 (s1 : Int)]
/-- A moment as it lies. -/
def Mo (Q : Nat → Prop) (W : World) (m : Array Value) (x : Sp) : Prop := ∃ p0 p1, m = momA p0 x.1.1.length x.1.2 p1 x.2.1.length x.2.2 ∧ Cn Q W (cnA p0 x.1.1.length x.1.2) x.1.1 x.1.2 ∧ Cn Q W (cnA p1 x.2.1.length x.2.2) x.2.1 x.2.2
theorem Mo.keep {Q Q' : Nat → Prop} {W W' : World} (hb : ∀ j, Q j → W'.heap[j]? = W.heap[j]?) (hq : ∀ j, Q j → Q' j) {m : Array Value} {x : Sp} (h : Mo Q W m x) : Mo Q' W' m x := by
  obtain ⟨p0, p1, h1, h2, h3⟩ := h
  exact ⟨p0, p1, h1, h2.keep hb hq, h3.keep hb hq⟩
theorem Mo.size {Q : Nat → Prop} {W : World} {m : Array Value} {x : Sp} (h : Mo Q W m x) : m.size = 6 := by
  obtain ⟨_, _, rfl, _⟩ := h
  rfl
theorem Mo.one {Q : Nat → Prop} {W : World} {m : Array Value} {x : Sp} (h : Mo Q W m x) : m.all (·.oneCell') = true := by
  obtain ⟨_, _, rfl, _⟩ := h
  simp [momA, Value.oneCell']
theorem sizeM : (Try.prog.info? 52).map (·.size) = some 6 := by kernel_rfl
def ldM (p : Value) : Sem Value := Instr.loadAt 52 p
theorem toLdM (p : Value) : Instr.loadAt 52 p = ldM p := rfl
def stM (p v : Value) : Sem Unit := Instr.storeAt 52 p v
theorem toStM (p v : Value) : Instr.storeAt 52 p v = stM p v := rfl
theorem ld_M (w : World) (g o : Nat) (c : Array Value) (hc : c.size = 6) (h : w.rangeAt g o c.toList) : (ldM (.pointer (some ⟨g, o, none⟩))).run Try.prog w = .ok (.agg c) w := by
  have := run_loadAt_mid (P := Try.prog) w g o 52 c.toList _ h Try.underlying52 rfl (by rw [sizeM]; simp [hc])
  simpa [ldM] using this
theorem ld_Mrow (w : World) (g : Nat) (c : Array Value) (hc : c.size = 6) (h : w.heap[g]? = some (.cells c 52 (0, 0))) : (ldM (.pointer (some ⟨g, 0, none⟩))).run Try.prog w = .ok (.agg c) w := by
  refine ld_M w g 0 c hc ?_
  have := World.rangeAt_of_block h 0 6
  rwa [show c.extract 0 (0 + 6) = c by rw [← hc, Nat.zero_add]; simp] at this
theorem st_M (w : World) (g : Nat) (C D : Array Value) (hC : C.size = 6) (hD : D.size = 6) (h1 : D.all (·.oneCell') = true) (hg : w.heap[g]? = some (.cells C 52 (0, 0))) : (stM (.pointer (some ⟨g, 0, none⟩)) (.agg D)).run Try.prog w = .ok () (w.setRow g D) := by
  unfold stM
  simp only [Instr.storeAt, Instr.sureAddr, Sem.run_bind, Sem.run_pure, Result.andThen_ok, run_storeVar_row w g 52 52 C D hg (by rw [sizeM, hD]) (by rw [hD, hC]) h1]
theorem results_M {fn : Func} {p : Tmp} (h : fn.results = #[.cell p 52]) (tmps : Array Value) (w : World) (g : Nat) (C : Array Value) (hC : C.size = 6)
    (hp : tmps.getD p undef = .pointer (some ⟨g, 0, none⟩)) (hg : w.heap[g]? = some (.cells C 52 (0, 0))) :
    (results fn tmps).run Try.prog w = .ok (.agg C) w := by
  have hp' : tmps[p]?.getD undef = .pointer (some ⟨g, 0, none⟩) := by simpa using hp
  simp [results, h, hp', asAddr, run_loadVar_row w g 52 52 C (0, 0) _ hg Try.underlying52 rfl (by rw [sizeM, hC])]
def zM : Array Value := #[.pointer none, .int .i64 0, .int .i64 0, .pointer none, .int .i64 0, .int .i64 0]
def flat (l : List (Array Value)) : List Value := l.flatMap (·.toList)
theorem flat_app (a b : List (Array Value)) : flat (a ++ b) = flat a ++ flat b := by simp [flat]
theorem flat_at {sz : Nat} : ∀ {ls : List (Array Value)}, (∀ c ∈ ls, c.size = sz) → ∀ (i : Nat) c, ls[i]? = some c → ∀ (j : Nat) v, c.toList[j]? = some v → (flat ls)[i * sz + j]? = some v
  | [], _, i, c, h, _, _, _ => by simp at h
  | a :: l, hz, 0, c, h, j, v, hv => by
    obtain rfl : a = c := by simpa using h
    have hj : j < a.toList.length := (List.getElem?_eq_some_iff.1 hv).1
    show (a.toList ++ flat l)[0 * sz + j]? = _
    rw [Nat.zero_mul, Nat.zero_add, List.getElem?_append_left hj]
    exact hv
  | a :: l, hz, i + 1, c, h, j, v, hv => by
    have := flat_at (sz := sz) (ls := l) (fun c hc => hz c (List.mem_cons_of_mem _ hc)) i c (by simpa using h) j v hv
    have ha : a.toList.length = sz := by rw [Array.length_toList]; exact hz a List.mem_cons_self
    show (a.toList ++ flat l)[(i + 1) * sz + j]? = _
    rw [List.getElem?_append_right (by rw [ha, Nat.add_mul]; omega), ha, show (i + 1) * sz + j - sz = i * sz + j by rw [Nat.add_mul]; omega]
    exact this
theorem own_at {W : World} {base e sz n : Nat} {v : Value} {ls : List (Array Value)} (h : W.ownsRow base e sz v n (flat ls)) {g : Nat} (hg : v.ownBlock = some g) (hz : ∀ c ∈ ls, c.size = sz) (i : Nat) (c : Array Value) (hc : ls[i]? = some c) : W.rangeAt g (i * sz) c.toList := fun j u hu => by
  have := h.cells hg _ u (flat_at hz i c hc j u hu)
  rwa [Addr.add_mid, Nat.zero_add] at this
/-- Blocks that stay. -/
def Qd [Inhabited HoleT] (lo : Nat) (W : World) (v : Nat) (lv : Value) (g : Nat) : Prop := (lo ≤ g ∧ ¬ inHole g) ∧ g < W.heap.size ∧ g ≠ v ∧ lv.ownBlock ≠ some g
/-- A device as it lies: its moments. -/
structure Dv [Inhabited HoleT] (lo : Nat) (W : World) (v : Nat) (lv : Value) (f : Array Value) (ms : List (Array Value)) (sp : List Sp) : Prop where
  row : W.heap[v]? = some (.cells (f ++ #[lv]) 55 (0, 0))
  own : W.ownsRow lo 52 6 lv ms.length (flat ms)
  len : sp.length = ms.length + 1
  each : ∀ (i : Nat) m s, (f :: ms)[i]? = some m → sp[i]? = some s → Mo (Qd lo W v lv) W m s
  lov : lo ≤ v
  hb : holeB ≤ W.heap.size
theorem Dv.sz [Inhabited HoleT] {lo v : Nat} {W : World} {lv : Value} {f : Array Value} {ms : List (Array Value)} {sp : List Sp} (h : Dv lo W v lv f ms sp) : ∀ m ∈ f :: ms, m.size = 6 := fun m hm => by
  obtain ⟨i, hi, he⟩ := List.getElem_of_mem hm
  have hi2 : i < sp.length := by rw [h.len]; simpa using hi
  exact (h.each i m sp[i] (by rw [List.getElem?_eq_getElem hi, he]) (List.getElem?_eq_getElem hi2)).size
theorem Dv.below [Inhabited HoleT] {lo v : Nat} {W W' : World} {lv : Value} {f : Array Value} {ms : List (Array Value)} {sp : List Sp} (h : Dv lo W v lv f ms sp) (hb : Below W.heap.size W W') : Dv lo W' v lv f ms sp := by
  have hlt := h.own.lt
  refine ⟨(hb.block v (Array.getElem?_eq_some_iff.1 h.row).1).trans h.row, ?_, h.len, fun i m s h1 h2 => (h.each i m s h1 h2).keep (fun j hj => hb.block j hj.2.1) (fun j hj => ⟨hj.1, Nat.lt_of_lt_of_le hj.2.1 hb.size, hj.2.2⟩), h.lov, Nat.le_trans h.hb hb.size⟩
  obtain ⟨h0, h1⟩ := h.own
  refine ⟨h0, ?_⟩
  rcases h1 with h1 | ⟨g, cap, cur, rfl, hB, hg, hr⟩
  · exact .inl h1
  · exact .inr ⟨g, cap, cur, rfl, hB, (hb.block g (hlt g rfl).2).trans hg, hr⟩
theorem Dv.vsl [Inhabited HoleT] {lo v : Nat} {W : World} {lv : Value} {f : Array Value} {ms : List (Array Value)} {sp : List Sp} (h : Dv lo W v lv f ms sp) : ∃ oa cap, lv = .slice oa ms.length cap ∧ (0 < ms.length → ∃ g, oa = some ⟨g, 0, none⟩ ∧ ∀ (i : Nat) m, ms[i]? = some m → W.rangeAt g (i * 6) m.toList) := by
  have hz := h.sz
  rcases h.own.2 with ⟨h1, h2⟩ | ⟨g, cap, cur, h1, _⟩
  · exact ⟨none, 0, by rw [h1, h2], fun h => by omega⟩
  · exact ⟨some ⟨g, 0, none⟩, cap, h1, fun _ => ⟨g, rfl, fun i m hm => own_at h.own (by rw [h1]; rfl) (fun c hc => hz c (List.mem_cons_of_mem _ hc)) i m hm⟩⟩
theorem Dv.cell6 [Inhabited HoleT] {lo v : Nat} {W : World} {lv : Value} {f : Array Value} {ms : List (Array Value)} {sp : List Sp} (h : Dv lo W v lv f ms sp) : W.cell? ⟨v, 6, none⟩ = some lv := by
  have hf : f.size = 6 := h.sz f List.mem_cons_self
  rw [cell_of_row _ _ _ _ _ _ h.row, Array.getElem?_append_right (by omega), hf]
  rfl
set_option maxRecDepth 100000 in
theorem count_any [Inhabited HoleT] {lo v : Nat} {W : World} {lv : Value} {f : Array Value} {ms : List (Array Value)} {sp : List Sp} (h : Dv lo W v lv f ms sp) : Calls Try.prog 8 #[.pointer (some ⟨v, 0, none⟩)] W fun e w' => e = .returned (.int .i64 (ms.length : Int)) ∧ w' = W := by
  obtain ⟨oa, cap, rfl, -⟩ := h.vsl
  have c6 := h.cell6
  clear h
  go_enter Try.func8, Try.ntmps8
  go_wp2
  go_ret
  exact ⟨rfl, rfl⟩
section
attribute [local go_sem ↓] toLdM toStM
set_option maxRecDepth 100000 in
theorem at_any [Inhabited HoleT] {lo v : Nat} {W : World} {lv : Value} {f : Array Value} {ms : List (Array Value)} {sp : List Sp} (h : Dv lo W v lv f ms sp) (k : Nat) (x : Sp) (hk : sp[k]? = some x) (hbig : k < 9223372036854775807) : Calls Try.prog 30 #[.pointer (some ⟨v, 0, none⟩), .int .i64 (k : Int)] W fun e w' => ∃ m, e = .returned (.agg m) ∧ Mo (Qd lo W v lv) w' m x ∧ Below W.heap.size W w' := by
  obtain ⟨W1, hW1⟩ : ∃ W1, W.alloc (.cells zM 52) = W1 := ⟨_, rfl⟩
  have bW : Below W.heap.size W W1 := by rw [← hW1]; exact (Below.refl _ W).alloc (Nat.le_refl _) _
  have r1 : W1.heap[W.heap.size]? = some (.cells zM 52 (0, 0)) := by rw [← hW1]; exact heap_alloc_new _ _
  have h1 := h.below bW
  have hkl : k < sp.length := (List.getElem?_eq_some_iff.1 hk).1
  obtain ⟨m, hm⟩ : ∃ m, (f :: ms)[k]? = some m := ⟨_, List.getElem?_eq_getElem (by rw [List.length_cons, ← h.len]; exact hkl)⟩
  have hMo := h.each k m x hm hk
  have hm6 := hMo.size
  have st := st_M W1 W.heap.size zM m rfl hm6 hMo.one r1
  have HF : Hid ((W1.setRow W.heap.size m).heap[W.heap.size]? = some (.cells m 52 (0, 0)) ∧ Below W.heap.size W (W1.setRow W.heap.size m) ∧ m.size = 6 ∧ Mo (Qd lo W v lv) W m x) := ⟨setRow_heap _ _ _ _ _ _ r1, below_setRow bW (Nat.le_refl _) _, hm6, hMo⟩
  by_cases k0 : k = 0
  · subst k0
    obtain rfl : f = m := by simpa using hm
    have ld := ld_M W1 v 0 f hm6 (by
      have := World.rangeAt_of_block h1.row 0 6
      rwa [show (f ++ #[lv]).extract 0 (0 + 6) = f by rw [← hm6, Nat.zero_add]; simp] at this)
    rw [← hW1] at st ld
    have HW : Hid (W.alloc (.cells zM 52) = W1) := hW1
    clear hW1 bW r1 h1 hkl hm hMo hm6 h hk hbig
    unfold zM at *
    go_enter Try.func30, Try.ntmps30
    go_wp2
    rw [HW.out]
    refine bodyPost_ret (results_M rfl _ _ W.heap.size _ HF.out.2.2.1 rfl HF.out.1) rfl ?_
    exact ⟨_, rfl, HF.out.2.2.2.keep (fun j hj => HF.out.2.1.block j hj.2.1) (fun _ h => h), HF.out.2.1⟩
  · obtain ⟨i, rfl⟩ : ∃ i, k = i + 1 := ⟨k - 1, by omega⟩
    have hmi : ms[i]? = some m := by simpa using hm
    have him : i < ms.length := (List.getElem?_eq_some_iff.1 hmi).1
    obtain ⟨oa, cap, rfl, hr⟩ := h1.vsl
    obtain ⟨g, rfl, hrg⟩ := hr (by omega)
    have ld := ld_M W1 g (i * 6) m hm6 (hrg i m hmi)
    have c6 := h1.cell6
    rw [← hW1] at st ld c6
    have HW : Hid (W.alloc (.cells zM 52) = W1) := hW1
    obtain ⟨kk, hkk⟩ : ∃ kk : Nat, i + 1 = kk := ⟨_, rfl⟩
    rw [hkk]
    have w0 : IntKind.i64.wrap ((kk : Int) - 1) = (i : Int) := by rw [IntKind.wrap_i64]; omega
    have w1 : ¬ ((kk : Int) = 0) := by omega
    have w2 : ((kk : Int) == 0) = false := by simp; omega
    have w3 : (i : Int) < (ms.length : Int) := by omega
    have w4 : (0 : Int) ≤ (i : Int) := by omega
    clear hW1 bW r1 h1 hkl hm hMo hm6 h hk hbig hr hrg hmi k0 hkk him
    unfold zM at *
    go_enter Try.func30, Try.ntmps30
    go_wp2
    rw [HW.out]
    refine bodyPost_ret (results_M rfl _ _ W.heap.size _ HF.out.2.2.1 rfl HF.out.1) rfl ?_
    exact ⟨_, rfl, HF.out.2.2.2.keep (fun j hj => HF.out.2.1.block j hj.2.1) (fun _ h => h), HF.out.2.1⟩
end
end Go.Proofs.Ytdiflmckjpmngaa
