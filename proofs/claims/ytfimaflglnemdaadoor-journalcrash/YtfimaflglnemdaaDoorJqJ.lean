/- Several texts in one: JdE, JdF, JdG. -/
import Derived.Test.YtfimaflglnemdaaDoorJqI
/- The journal's device: moments, at, disk. -/
namespace Go.Proofs.YtfimaflglnemdaaDoor.Dev
open Go.RowKit
/-- Blocks that a device keeps off: what lies in the hole may be written over. -/
structure HoleT where
  p : Nat → Prop
  b : Nat
  ok : ∀ g, b ≤ g → ¬ p g
def inHole [Inhabited HoleT] (g : Nat) : Prop := (default : HoleT).p g
def holeB [Inhabited HoleT] : Nat := (default : HoleT).b
theorem hole_ok [Inhabited HoleT] {g : Nat} (h : holeB ≤ g) : ¬ inHole g := (default : HoleT).ok g h
abbrev Sp := (List Nat × Nat) × (List Nat × Nat)
def momA (p0 : Option Addr) (n0 s0 : Nat) (p1 : Option Addr) (n1 s1 : Nat) : Array Value := #[.pointer p0, .int .i64 (n0 : Int), .int .i64 (s0 : Int), .pointer p1, .int .i64 (n1 : Int), .int .i64 (s1 : Int)]
/-- A moment as it lies. -/
def Mo (Q : Nat → Prop) (W : World) (m : Array Value) (x : Sp) : Prop := ∃ p0 p1, m = momA p0 x.1.1.length x.1.2 p1 x.2.1.length x.2.2 ∧ Cn Q W (cnA p0 x.1.1.length x.1.2) x.1.1 x.1.2 ∧ Cn Q W (cnA p1 x.2.1.length x.2.2) x.2.1 x.2.2
theorem Mo.keep {Q Q' : Nat → Prop} {W W' : World} (hb : ∀ j, Q j → W'.heap[j]? = W.heap[j]?) (hq : ∀ j, Q j → Q' j) {m : Array Value} {x : Sp} (h : Mo Q W m x) : Mo Q' W' m x := by
  obtain ⟨p0, p1, h1, h2, h3⟩ := h
  exact ⟨p0, p1, h1, h2.keep hb hq, h3.keep hb hq⟩
theorem Mo.size {Q : Nat → Prop} {W : World} {m : Array Value} {x : Sp} (h : Mo Q W m x) : m.size = 6 := by
  obtain ⟨_, _, rfl, _⟩ := h
  rfl
theorem Mo.one {Q : Nat → Prop} {W : World} {m : Array Value} {x : Sp} (h : Mo Q W m x) : m.all (·.oneCell') = true := by
  obtain ⟨_, _, rfl, _⟩ := h
  simp [momA, Value.oneCell']
theorem sizeM : (Tryd.prog.info? 90).map (·.size) = some 6 := by kernel_rfl
def ldM (p : Value) : Sem Value := Instr.loadAt 90 p
theorem toLdM (p : Value) : Instr.loadAt 90 p = ldM p := rfl
def stM (p v : Value) : Sem Unit := Instr.storeAt 90 p v
theorem toStM (p v : Value) : Instr.storeAt 90 p v = stM p v := rfl
theorem ld_M (w : World) (g o : Nat) (c : Array Value) (hc : c.size = 6) (h : w.rangeAt g o c.toList) : (ldM (.pointer (some ⟨g, o, none⟩))).run Tryd.prog w = .ok (.agg c) w := by
  have := run_loadAt_mid (P := Tryd.prog) w g o 90 c.toList _ h Tryd.underlying90 rfl (by rw [sizeM]; simp [hc])
  simpa [ldM] using this
theorem ld_Mrow (w : World) (g : Nat) (c : Array Value) (hc : c.size = 6) (h : w.heap[g]? = some (.cells c 90 (0, 0))) : (ldM (.pointer (some ⟨g, 0, none⟩))).run Tryd.prog w = .ok (.agg c) w := by
  refine ld_M w g 0 c hc ?_
  have := World.rangeAt_of_block h 0 6
  rwa [show c.extract 0 (0 + 6) = c by rw [← hc, Nat.zero_add]; simp] at this
theorem st_M (w : World) (g : Nat) (C D : Array Value) (hC : C.size = 6) (hD : D.size = 6) (h1 : D.all (·.oneCell') = true) (hg : w.heap[g]? = some (.cells C 90 (0, 0))) : (stM (.pointer (some ⟨g, 0, none⟩)) (.agg D)).run Tryd.prog w = .ok () (w.setRow g D) := by
  unfold stM
  simp only [Instr.storeAt, Instr.sureAddr, Sem.run_bind, Sem.run_pure, Result.andThen_ok, run_storeVar_row w g 90 90 C D hg (by rw [sizeM, hD]) (by rw [hD, hC]) h1]
theorem results_M {fn : Func} {p : Tmp} (h : fn.results = #[.cell p 90]) (tmps : Array Value) (w : World) (g : Nat) (C : Array Value) (hC : C.size = 6)
    (hp : tmps.getD p undef = .pointer (some ⟨g, 0, none⟩)) (hg : w.heap[g]? = some (.cells C 90 (0, 0))) :
    (results fn tmps).run Tryd.prog w = .ok (.agg C) w := by
  have hp' : tmps[p]?.getD undef = .pointer (some ⟨g, 0, none⟩) := by simpa using hp
  simp [results, h, hp', asAddr, run_loadVar_row w g 90 90 C (0, 0) _ hg Tryd.underlying90 rfl (by rw [sizeM, hC])]
def zM : Array Value := #[.pointer none, .int .i64 0, .int .i64 0, .pointer none, .int .i64 0, .int .i64 0]
def flat (l : List (Array Value)) : List Value := l.flatMap (·.toList)
theorem flat_app (a b : List (Array Value)) : flat (a ++ b) = flat a ++ flat b := by simp [flat]
theorem flat_at {sz : Nat} : ∀ {ls : List (Array Value)}, (∀ c ∈ ls, c.size = sz) → ∀ (i : Nat) c, ls[i]? = some c → ∀ (j : Nat) v, c.toList[j]? = some v → (flat ls)[i * sz + j]? = some v
  | [], _, i, c, h, _, _, _ => by simp at h
  | a :: l, hz, 0, c, h, j, v, hv => by
    obtain rfl : a = c := by simpa using h
    have hj : j < a.toList.length := (List.getElem?_eq_some_iff.1 hv).1
    show (a.toList ++ flat l)[0 * sz + j]? = _
    rw [Nat.zero_mul, Nat.zero_add, List.getElem?_append_left hj]
    exact hv
  | a :: l, hz, i + 1, c, h, j, v, hv => by
    have := flat_at (sz := sz) (ls := l) (fun c hc => hz c (List.mem_cons_of_mem _ hc)) i c (by simpa using h) j v hv
    have ha : a.toList.length = sz := by rw [Array.length_toList]; exact hz a List.mem_cons_self
    show (a.toList ++ flat l)[(i + 1) * sz + j]? = _
    rw [List.getElem?_append_right (by rw [ha, Nat.add_mul]; omega), ha, show (i + 1) * sz + j - sz = i * sz + j by rw [Nat.add_mul]; omega]
    exact this
theorem own_at {W : World} {base e sz n : Nat} {v : Value} {ls : List (Array Value)} (h : W.ownsRow base e sz v n (flat ls)) {g : Nat} (hg : v.ownBlock = some g) (hz : ∀ c ∈ ls, c.size = sz) (i : Nat) (c : Array Value) (hc : ls[i]? = some c) : W.rangeAt g (i * sz) c.toList := fun j u hu => by
  have := h.cells hg _ u (flat_at hz i c hc j u hu)
  rwa [Addr.add_mid, Nat.zero_add] at this
/-- Blocks that stay. -/
def Qd [Inhabited HoleT] (lo : Nat) (W : World) (v : Nat) (lv : Value) (g : Nat) : Prop := (lo ≤ g ∧ ¬ inHole g) ∧ g < W.heap.size ∧ g ≠ v ∧ lv.ownBlock ≠ some g
/-- A device as it lies: its moments. -/
structure Dv [Inhabited HoleT] (lo : Nat) (W : World) (v : Nat) (lv : Value) (f : Array Value) (ms : List (Array Value)) (sp : List Sp) : Prop where
  row : W.heap[v]? = some (.cells (f ++ #[lv]) 93 (0, 0))
  own : W.ownsRow lo 90 6 lv ms.length (flat ms)
  len : sp.length = ms.length + 1
  each : ∀ (i : Nat) m s, (f :: ms)[i]? = some m → sp[i]? = some s → Mo (Qd lo W v lv) W m s
  lov : lo ≤ v
  hb : holeB ≤ W.heap.size
theorem Dv.sz [Inhabited HoleT] {lo v : Nat} {W : World} {lv : Value} {f : Array Value} {ms : List (Array Value)} {sp : List Sp} (h : Dv lo W v lv f ms sp) : ∀ m ∈ f :: ms, m.size = 6 := fun m hm => by
  obtain ⟨i, hi, he⟩ := List.getElem_of_mem hm
  have hi2 : i < sp.length := by rw [h.len]; simpa using hi
  exact (h.each i m sp[i] (by rw [List.getElem?_eq_getElem hi, he]) (List.getElem?_eq_getElem hi2)).size
theorem Dv.below [Inhabited HoleT] {lo v : Nat} {W W' : World} {lv : Value} {f : Array Value} {ms : List (Array Value)} {sp : List Sp} (h : Dv lo W v lv f ms sp) (hb : Below W.heap.size W W') : Dv lo W' v lv f ms sp := by
  have hlt := h.own.lt
  refine ⟨(hb.block v (Array.getElem?_eq_some_iff.1 h.row).1).trans h.row, ?_, h.len, fun i m s h1 h2 => (h.each i m s h1 h2).keep (fun j hj => hb.block j hj.2.1) (fun j hj => ⟨hj.1, Nat.lt_of_lt_of_le hj.2.1 hb.size, hj.2.2⟩), h.lov, Nat.le_trans h.hb hb.size⟩
  obtain ⟨h0, h1⟩ := h.own
  refine ⟨h0, ?_⟩
  rcases h1 with h1 | ⟨g, cap, cur, rfl, hB, hg, hr⟩
  · exact .inl h1
  · exact .inr ⟨g, cap, cur, rfl, hB, (hb.block g (hlt g rfl).2).trans hg, hr⟩
theorem Dv.vsl [Inhabited HoleT] {lo v : Nat} {W : World} {lv : Value} {f : Array Value} {ms : List (Array Value)} {sp : List Sp} (h : Dv lo W v lv f ms sp) : ∃ oa cap, lv = .slice oa ms.length cap ∧ (0 < ms.length → ∃ g, oa = some ⟨g, 0, none⟩ ∧ ∀ (i : Nat) m, ms[i]? = some m → W.rangeAt g (i * 6) m.toList) := by
  have hz := h.sz
  rcases h.own.2 with ⟨h1, h2⟩ | ⟨g, cap, cur, h1, _⟩
  · exact ⟨none, 0, by rw [h1, h2], fun h => by omega⟩
  · exact ⟨some ⟨g, 0, none⟩, cap, h1, fun _ => ⟨g, rfl, fun i m hm => own_at h.own (by rw [h1]; rfl) (fun c hc => hz c (List.mem_cons_of_mem _ hc)) i m hm⟩⟩
theorem Dv.cell6 [Inhabited HoleT] {lo v : Nat} {W : World} {lv : Value} {f : Array Value} {ms : List (Array Value)} {sp : List Sp} (h : Dv lo W v lv f ms sp) : W.cell? ⟨v, 6, none⟩ = some lv := by
  have hf : f.size = 6 := h.sz f List.mem_cons_self
  rw [cell_of_row _ _ _ _ _ _ h.row, Array.getElem?_append_right (by omega), hf]
  rfl
set_option maxRecDepth 100000 in
theorem count_any [Inhabited HoleT] {lo v : Nat} {W : World} {lv : Value} {f : Array Value} {ms : List (Array Value)} {sp : List Sp} (h : Dv lo W v lv f ms sp) : Calls Tryd.prog 9 #[.pointer (some ⟨v, 0, none⟩)] W fun e w' => e = .returned (.int .i64 (ms.length : Int)) ∧ w' = W := by
  obtain ⟨oa, cap, rfl, -⟩ := h.vsl
  have c6 := h.cell6
  clear h
  go_enter Tryd.func9, Tryd.ntmps9
  go_wp2
  go_ret
  exact ⟨rfl, rfl⟩
section
attribute [local go_sem ↓] toLdM toStM
set_option maxRecDepth 100000 in
theorem at_any [Inhabited HoleT] {lo v : Nat} {W : World} {lv : Value} {f : Array Value} {ms : List (Array Value)} {sp : List Sp} (h : Dv lo W v lv f ms sp) (k : Nat) (x : Sp) (hk : sp[k]? = some x) (hbig : k < 9223372036854775807) : Calls Tryd.prog 53 #[.pointer (some ⟨v, 0, none⟩), .int .i64 (k : Int)] W fun e w' => ∃ m, e = .returned (.agg m) ∧ Mo (Qd lo W v lv) w' m x ∧ Below W.heap.size W w' := by
  obtain ⟨W1, hW1⟩ : ∃ W1, W.alloc (.cells zM 90) = W1 := ⟨_, rfl⟩
  have bW : Below W.heap.size W W1 := by rw [← hW1]; exact (Below.refl _ W).alloc (Nat.le_refl _) _
  have r1 : W1.heap[W.heap.size]? = some (.cells zM 90 (0, 0)) := by rw [← hW1]; exact heap_alloc_new _ _
  have h1 := h.below bW
  have hkl : k < sp.length := (List.getElem?_eq_some_iff.1 hk).1
  obtain ⟨m, hm⟩ : ∃ m, (f :: ms)[k]? = some m := ⟨_, List.getElem?_eq_getElem (by rw [List.length_cons, ← h.len]; exact hkl)⟩
  have hMo := h.each k m x hm hk
  have hm6 := hMo.size
  have st := st_M W1 W.heap.size zM m rfl hm6 hMo.one r1
  have HF : Hid ((W1.setRow W.heap.size m).heap[W.heap.size]? = some (.cells m 90 (0, 0)) ∧ Below W.heap.size W (W1.setRow W.heap.size m) ∧ m.size = 6 ∧ Mo (Qd lo W v lv) W m x) := ⟨setRow_heap _ _ _ _ _ _ r1, below_setRow bW (Nat.le_refl _) _, hm6, hMo⟩
  by_cases k0 : k = 0
  · subst k0
    obtain rfl : f = m := by simpa using hm
    have ld := ld_M W1 v 0 f hm6 (by
      have := World.rangeAt_of_block h1.row 0 6
      rwa [show (f ++ #[lv]).extract 0 (0 + 6) = f by rw [← hm6, Nat.zero_add]; simp] at this)
    rw [← hW1] at st ld
    have HW : Hid (W.alloc (.cells zM 90) = W1) := hW1
    clear hW1 bW r1 h1 hkl hm hMo hm6 h hk hbig
    unfold zM at *
    go_enter Tryd.func53, Tryd.ntmps53
    go_wp2
    rw [HW.out]
    refine bodyPost_ret (results_M rfl _ _ W.heap.size _ HF.out.2.2.1 rfl HF.out.1) rfl ?_
    exact ⟨_, rfl, HF.out.2.2.2.keep (fun j hj => HF.out.2.1.block j hj.2.1) (fun _ h => h), HF.out.2.1⟩
  · obtain ⟨i, rfl⟩ : ∃ i, k = i + 1 := ⟨k - 1, by omega⟩
    have hmi : ms[i]? = some m := by simpa using hm
    have him : i < ms.length := (List.getElem?_eq_some_iff.1 hmi).1
    obtain ⟨oa, cap, rfl, hr⟩ := h1.vsl
    obtain ⟨g, rfl, hrg⟩ := hr (by omega)
    have ld := ld_M W1 g (i * 6) m hm6 (hrg i m hmi)
    have c6 := h1.cell6
    rw [← hW1] at st ld c6
    have HW : Hid (W.alloc (.cells zM 90) = W1) := hW1
    obtain ⟨kk, hkk⟩ : ∃ kk : Nat, i + 1 = kk := ⟨_, rfl⟩
    rw [hkk]
    have w0 : IntKind.i64.wrap ((kk : Int) - 1) = (i : Int) := by rw [IntKind.wrap_i64]; omega
    have w1 : ¬ ((kk : Int) = 0) := by omega
    have w2 : ((kk : Int) == 0) = false := by simp; omega
    have w3 : (i : Int) < (ms.length : Int) := by omega
    have w4 : (0 : Int) ≤ (i : Int) := by omega
    clear hW1 bW r1 h1 hkl hm hMo hm6 h hk hbig hr hrg hmi k0 hkk him
    unfold zM at *
    go_enter Tryd.func53, Tryd.ntmps53
    go_wp2
    rw [HW.out]
    refine bodyPost_ret (results_M rfl _ _ W.heap.size _ HF.out.2.2.1 rfl HF.out.1) rfl ?_
    exact ⟨_, rfl, HF.out.2.2.2.keep (fun j hj => HF.out.2.1.block j hj.2.1) (fun _ h => h), HF.out.2.1⟩
end
end Go.Proofs.YtfimaflglnemdaaDoor.Dev

/- The journal's device: disk, Disk. -/
namespace Go.Proofs.YtfimaflglnemdaaDoor.Dev
open Go.RowKit
def dkA (g0 n0 g1 n1 : Nat) : Array Value := #[.slice (some ⟨g0, 0, none⟩) n0 n0, .slice (some ⟨g1, 0, none⟩) n1 n1]
/-- A disk that is handed out. -/
def DkP (W : World) (x : Sp) (c : Array Value) (w' : World) : Prop := ∃ g0 g1, c = dkA g0 x.1.1.length g1 x.2.1.length ∧ w'.heap[g0]? = some (.cells (bs x.1.1).toArray 5 (0, 0)) ∧ w'.heap[g1]? = some (.cells (bs x.2.1).toArray 5 (0, 0)) ∧ W.heap.size ≤ g0 ∧ W.heap.size ≤ g1 ∧ g0 ≠ g1 ∧ Below W.heap.size W w'
def zD : Array Value := #[.slice none 0 0, .slice none 0 0]
theorem sizeD : (Tryd.prog.info? 26).map (·.size) = some 2 := by kernel_rfl
theorem results_D {fn : Func} {p : Tmp} (h : fn.results = #[.cell p 26]) (tmps : Array Value) (w : World) (g : Nat) (C : Array Value) (hC : C.size = 2)
    (hp : tmps.getD p undef = .pointer (some ⟨g, 0, none⟩)) (hg : w.heap[g]? = some (.cells C 26 (0, 0))) :
    (results fn tmps).run Tryd.prog w = .ok (.agg C) w := by
  have hp' : tmps[p]?.getD undef = .pointer (some ⟨g, 0, none⟩) := by simpa using hp
  simp [results, h, hp', asAddr, run_loadVar_row w g 26 26 C (0, 0) _ hg Tryd.underlying26 rfl (by rw [sizeD, hC])]
theorem results_Dt {fn : Func} {p u : Tmp} (h : fn.results = #[.cell p 26, .tmp u]) (tmps : Array Value) (w : World) (g : Nat) (C : Array Value) (hC : C.size = 2)
    (hp : tmps.getD p undef = .pointer (some ⟨g, 0, none⟩)) (hg : w.heap[g]? = some (.cells C 26 (0, 0))) :
    (results fn tmps).run Tryd.prog w = .ok (.tuple #[.agg C, tmps.getD u undef]) w := by
  have hp' : tmps[p]?.getD undef = .pointer (some ⟨g, 0, none⟩) := by simpa using hp
  simp [results, h, hp', asAddr, run_loadVar_row w g 26 26 C (0, 0) _ hg Tryd.underlying26 rfl (by rw [sizeD, hC])]
def ldD (p : Value) : Sem Value := Instr.loadAt 26 p
theorem toLdD (p : Value) : Instr.loadAt 26 p = ldD p := rfl
def stD (p v : Value) : Sem Unit := Instr.storeAt 26 p v
theorem toStD (p v : Value) : Instr.storeAt 26 p v = stD p v := rfl
theorem ld_Drow (w : World) (g : Nat) (c : Array Value) (hc : c.size = 2) (h : w.heap[g]? = some (.cells c 26 (0, 0))) : (ldD (.pointer (some ⟨g, 0, none⟩))).run Tryd.prog w = .ok (.agg c) w := by
  have h2 := World.rangeAt_of_block h 0 2
  rw [show c.extract 0 (0 + 2) = c by rw [← hc, Nat.zero_add]; simp] at h2
  have := run_loadAt_mid (P := Tryd.prog) w g 0 26 c.toList _ h2 Tryd.underlying26 rfl (by rw [sizeD]; simp [hc])
  simpa [ldD] using this
theorem st_D (w : World) (g : Nat) (C D : Array Value) (hC : C.size = 2) (hD : D.size = 2) (h1 : D.all (·.oneCell') = true) (hg : w.heap[g]? = some (.cells C 26 (0, 0))) : (stD (.pointer (some ⟨g, 0, none⟩)) (.agg D)).run Tryd.prog w = .ok () (w.setRow g D) := by
  unfold stD
  simp only [Instr.storeAt, Instr.sureAddr, Sem.run_bind, Sem.run_pure, Result.andThen_ok, run_storeVar_row w g 26 26 C D hg (by rw [sizeD, hD]) (by rw [hD, hC]) h1]
/-- What stands while a disk is laid. -/
def DkR (W : World) (x : Sp) (i : Nat) (wr : World) : Prop := ∃ v0 v1, wr.heap[W.heap.size + 2]? = some (.cells #[v0, v1] 26 (0, 0)) ∧ wr.heap[W.heap.size + 1]? = some (.cells zD 26 (0, 0)) ∧ Below W.heap.size W wr ∧ (0 < i → ∃ g0, v0 = .slice (some ⟨g0, 0, none⟩) x.1.1.length x.1.1.length ∧ W.heap.size + 3 ≤ g0 ∧ wr.heap[g0]? = some (.cells (bs x.1.1).toArray 5 (0, 0)) ∧ (1 < i → ∃ g1, v1 = .slice (some ⟨g1, 0, none⟩) x.2.1.length x.2.1.length ∧ g0 < g1 ∧ wr.heap[g1]? = some (.cells (bs x.2.1).toArray 5 (0, 0))))
theorem DkR.step0 {W wr X : World} {x : Sp} (c : Obj) (h : DkR W x 0 wr) (g : Nat) (hb : Below (wr.alloc c).heap.size (wr.alloc c) X) (hg : X.heap[g]? = some (.cells (bs x.1.1).toArray 5 (0, 0))) (hg2 : (wr.alloc c).heap.size ≤ g) : (∃ v, X.cell? ⟨W.heap.size + 2, 0, none⟩ = some v) ∧ X.frozen? ⟨W.heap.size + 2, 0, none⟩ = false ∧ DkR W x 1 (X.setCell ⟨W.heap.size + 2, 0, none⟩ (.slice (some ⟨g, 0, none⟩) x.1.1.length x.1.1.length)) := by
  obtain ⟨v0, v1, h1, h2, h3, -⟩ := h
  have hz : W.heap.size + 2 < wr.heap.size := (Array.getElem?_eq_some_iff.1 h1).1
  have hza : (wr.alloc c).heap.size = wr.heap.size + 1 := by simp
  rw [hza] at hg2
  have kp : ∀ j, j < wr.heap.size → X.heap[j]? = wr.heap[j]? := fun j hj => (hb.block j (by omega)).trans (heap_alloc_old _ _ (h := hj))
  have b1 : X.heap[W.heap.size + 2]? = some (.cells #[v0, v1] 26 (0, 0)) := (kp _ hz).trans h1
  have bb : Below W.heap.size W X := (h3.alloc (by omega) c).trans (hb.mono (by omega))
  refine ⟨⟨v0, by rw [cell_of_row _ _ _ _ _ _ b1]; rfl⟩, frozen_of_row _ _ _ _ _ b1, .slice (some ⟨g, 0, none⟩) x.1.1.length x.1.1.length, v1, heap_setCell_same _ _ _ _ _ _ b1, (heap_setCell_other _ _ _ _ (by show W.heap.size + 1 ≠ W.heap.size + 2; omega)).trans ((kp _ (by omega)).trans h2), bb.setCell (by simp) _, fun _ => ⟨g, rfl, by omega, (heap_setCell_other _ _ _ _ (by show g ≠ W.heap.size + 2; omega)).trans hg, fun h => by omega⟩⟩
theorem DkR.step1 {W wr X : World} {x : Sp} (c : Obj) (h : DkR W x 1 wr) (g : Nat) (hb : Below (wr.alloc c).heap.size (wr.alloc c) X) (hg : X.heap[g]? = some (.cells (bs x.2.1).toArray 5 (0, 0))) (hg2 : (wr.alloc c).heap.size ≤ g) : (∃ v, X.cell? ⟨W.heap.size + 2, 1, none⟩ = some v) ∧ X.frozen? ⟨W.heap.size + 2, 1, none⟩ = false ∧ DkR W x 2 (X.setCell ⟨W.heap.size + 2, 1, none⟩ (.slice (some ⟨g, 0, none⟩) x.2.1.length x.2.1.length)) := by
  obtain ⟨v0, v1, h1, h2, h3, h4⟩ := h
  obtain ⟨g0, rfl, q1, q2, -⟩ := h4 (by omega)
  have hz : W.heap.size + 2 < wr.heap.size := (Array.getElem?_eq_some_iff.1 h1).1
  have hz0 : g0 < wr.heap.size := (Array.getElem?_eq_some_iff.1 q2).1
  have hza : (wr.alloc c).heap.size = wr.heap.size + 1 := by simp
  rw [hza] at hg2
  have kp : ∀ j, j < wr.heap.size → X.heap[j]? = wr.heap[j]? := fun j hj => (hb.block j (by omega)).trans (heap_alloc_old _ _ (h := hj))
  have b1 : X.heap[W.heap.size + 2]? = some (.cells #[.slice (some ⟨g0, 0, none⟩) x.1.1.length x.1.1.length, v1] 26 (0, 0)) := (kp _ hz).trans h1
  have bb : Below W.heap.size W X := (h3.alloc (by omega) c).trans (hb.mono (by omega))
  refine ⟨⟨v1, by rw [cell_of_row _ _ _ _ _ _ b1]; rfl⟩, frozen_of_row _ _ _ _ _ b1, _, .slice (some ⟨g, 0, none⟩) x.2.1.length x.2.1.length, heap_setCell_same _ _ _ _ _ _ b1, (heap_setCell_other _ _ _ _ (by show W.heap.size + 1 ≠ W.heap.size + 2; omega)).trans ((kp _ (by omega)).trans h2), bb.setCell (by simp) _, fun _ => ⟨g0, rfl, q1, (heap_setCell_other _ _ _ _ (by show g0 ≠ W.heap.size + 2; omega)).trans ((kp _ hz0).trans q2), fun _ => ⟨g, rfl, by omega, (heap_setCell_other _ _ _ _ (by show g ≠ W.heap.size + 2; omega)).trans hg⟩⟩⟩
theorem ix_M0 (w : World) (p0 p1 : Option Addr) (n0 s0 n1 s1 : Nat) : (Instr.index 90 (.agg #[.pointer p0, .int .i64 (n0 : Int), .int .i64 (s0 : Int), .pointer p1, .int .i64 (n1 : Int), .int .i64 (s1 : Int)]) (.int .i64 0)).run Tryd.prog w = .ok (.agg #[.pointer p0, .int .i64 (n0 : Int), .int .i64 (s0 : Int)]) w := by
  obtain ⟨i, hi, hs⟩ : ∃ i, Tryd.prog.info? 88 = some i ∧ i.size = 3 := by
    have := sizeC
    cases hq : Tryd.prog.info? 88 with
    | none => rw [hq] at this; cases this
    | some i => rw [hq] at this; exact ⟨i, rfl, by simpa using this⟩
  simp [Instr.index, asIntOf, Sem.run_bind, run_underlying Tryd.underlying90, sizeOf, typeInfo, hi, hs, part, isAgg, run_underlying Tryd.underlying88]
theorem ix_M1 (w : World) (p0 p1 : Option Addr) (n0 s0 n1 s1 : Nat) : (Instr.index 90 (.agg #[.pointer p0, .int .i64 (n0 : Int), .int .i64 (s0 : Int), .pointer p1, .int .i64 (n1 : Int), .int .i64 (s1 : Int)]) (.int .i64 1)).run Tryd.prog w = .ok (.agg #[.pointer p1, .int .i64 (n1 : Int), .int .i64 (s1 : Int)]) w := by
  obtain ⟨i, hi, hs⟩ : ∃ i, Tryd.prog.info? 88 = some i ∧ i.size = 3 := by
    have := sizeC
    cases hq : Tryd.prog.info? 88 with
    | none => rw [hq] at this; cases this
    | some i => rw [hq] at this; exact ⟨i, rfl, by simpa using this⟩
  simp [Instr.index, asIntOf, Sem.run_bind, run_underlying Tryd.underlying90, sizeOf, typeInfo, hi, hs, part, isAgg, run_underlying Tryd.underlying88]
section
attribute [local go_sem ↓] toLdD toStD
set_option maxRecDepth 100000 in
set_option maxHeartbeats 1600000 in
theorem disk_any (Q : Nat → Prop) (m : Array Value) (x : Sp) (W : World) (hm : Mo Q W m x) (hQ : ∀ j, Q j → j < W.heap.size) : Calls Tryd.prog 55 #[.agg m] W fun e w' => ∃ c, e = .returned (.agg c) ∧ DkP W x c w' := by
  obtain ⟨p0, p1, rfl, hc0, hc1⟩ := hm
  obtain ⟨W3, hW3⟩ : ∃ W3, ((W.alloc (.cells (momA p0 x.1.1.length x.1.2 p1 x.2.1.length x.2.2) 90)).alloc (.cells zD 26)).alloc (.cells zD 26) = W3 := ⟨_, rfl⟩
  have z2 : ((W.alloc (.cells (momA p0 x.1.1.length x.1.2 p1 x.2.1.length x.2.2) 90)).alloc (.cells zD 26)).heap.size = W.heap.size + 2 := by simp
  have bW : Below W.heap.size W W3 := by rw [← hW3]; exact (below2 _ _ _).alloc (by simp; omega) _
  have r1 : W3.heap[W.heap.size + 1]? = some (.cells zD 26 (0, 0)) := by rw [← hW3]; exact (heap_alloc_old _ _ (h := by rw [z2]; omega)).trans (row2n _ _ _)
  have r2 : W3.heap[W.heap.size + 2]? = some (.cells zD 26 (0, 0)) := by
    rw [← hW3]
    have := heap_alloc_new ((W.alloc (.cells (momA p0 x.1.1.length x.1.2 p1 x.2.1.length x.2.2) 90)).alloc (.cells zD 26)) (.cells zD 26)
    rw [z2] at this
    exact this
  have HS : Hid (DkR W x 0 W3) := ⟨_, _, r2, r1, bW, fun h => by omega⟩
  have HW : Hid (((W.alloc (.cells (momA p0 x.1.1.length x.1.2 p1 x.2.1.length x.2.2) 90)).alloc (.cells zD 26)).alloc (.cells zD 26) = W3) := hW3
  have HC : Hid (∀ wr, Below W.heap.size W wr → ∀ o, Cn Q (wr.alloc o) (cnA p0 x.1.1.length x.1.2) x.1.1 x.1.2 ∧ Cn Q (wr.alloc o) (cnA p1 x.2.1.length x.2.2) x.2.1 x.2.2 ∧ ∀ j, Q j → j < (wr.alloc o).heap.size) := fun wr hb o => by
    have kp : ∀ j, Q j → (wr.alloc o).heap[j]? = W.heap[j]? := fun j hj => (heap_alloc_old _ _ (h := by have := hQ j hj; have := hb.size; omega)).trans (hb.block j (hQ j hj))
    exact ⟨hc0.keep kp (fun _ h => h), hc1.keep kp (fun _ h => h), fun j hj => by have := hQ j hj; have := hb.size; simp; omega⟩
  obtain ⟨n0, hn0⟩ : ∃ n, x.1.1.length = n := ⟨_, rfl⟩
  obtain ⟨n1, hn1⟩ : ∃ n, x.2.1.length = n := ⟨_, rfl⟩
  obtain ⟨s0, hs0⟩ : ∃ n, x.1.2 = n := ⟨_, rfl⟩
  obtain ⟨s1, hs1⟩ : ∃ n, x.2.2 = n := ⟨_, rfl⟩
  have HN : Hid (x.1.1.length = n0 ∧ x.2.1.length = n1 ∧ x.1.2 = s0 ∧ x.2.2 = s1) := ⟨hn0, hn1, hs0, hs1⟩
  rw [hn0, hn1, hs0, hs1] at HW HC ⊢
  clear hW3 z2 bW r1 r2 hc0 hc1 hn0 hn1 hs0 hs1
  unfold momA zD cnA at *
  go_enter Tryd.func55, Tryd.ntmps55
  go_wp2_with fail
  rw [HW.out]
  go_loopw [7] (fun iv wr => (iv = .int .i64 0 ∧ Hid (DkR W x 0 wr)) ∨ (iv = .int .i64 1 ∧ Hid (DkR W x 1 wr)) ∨ (iv = .int .i64 2 ∧ Hid (DkR W x 2 wr))) (fun iv _ => 2 - (intOf iv).toNat)
  case atStart => exact .inl ⟨rfl, HS⟩
  case round =>
    rcases hrel with ⟨rfl, HR⟩ | ⟨rfl, HR⟩ | ⟨rfl, HR⟩
    · obtain ⟨_, _, _, _, hb, _⟩ := HR.out
      have C : Hid _ := bytes_any Q _ x.1.1 s0 _ (HC.out wr hb (.cells #[.pointer p0, .int .i64 (n0 : Int), .int .i64 (s0 : Int)] 88)).1 (HC.out wr hb _).2.2
      clear hb
      have hx0 := fun w => ix_M0 w p0 p1 n0 s0 n1 s1
      have hx1 := fun w => ix_M1 w p0 p1 n0 s0 n1 s1
      go_wp2_with fail
      refine Calls.mono C.out ?_
      rintro e X ⟨g, rfl, hg, hg2, hb⟩
      obtain ⟨⟨v, q1⟩, q2, q3⟩ := HR.out.step0 _ g hb hg hg2
      rw [HN.out.1] at q3 ⊢
      have HR2 : Hid _ := q3
      clear q3 hg hg2 hb C
      go_wp2_with fail
      go_roundw
      case rel => exact .inr (.inl ⟨by go_num, HR2⟩)
      case measure => simp [intOf]
    · obtain ⟨_, _, _, _, hb, _⟩ := HR.out
      have C : Hid _ := bytes_any Q _ x.2.1 s1 _ (HC.out wr hb (.cells #[.pointer p1, .int .i64 (n1 : Int), .int .i64 (s1 : Int)] 88)).2.1 (HC.out wr hb _).2.2
      clear hb
      have hx0 := fun w => ix_M0 w p0 p1 n0 s0 n1 s1
      have hx1 := fun w => ix_M1 w p0 p1 n0 s0 n1 s1
      go_wp2_with fail
      refine Calls.mono C.out ?_
      rintro e X ⟨g, rfl, hg, hg2, hb⟩
      obtain ⟨⟨v, q1⟩, q2, q3⟩ := HR.out.step1 _ g hb hg hg2
      rw [HN.out.2.1] at q3 ⊢
      have HR2 : Hid _ := q3
      clear q3 hg hg2 hb C
      go_wp2_with fail
      go_roundw
      case rel => exact .inr (.inr ⟨by go_num, HR2⟩)
      case measure => simp [intOf]
    · obtain ⟨v0, v1, h1, h2, h3, h4⟩ := HR.out
      obtain ⟨g0, rfl, q1, q2, q3⟩ := h4 (by omega)
      obtain ⟨g1, rfl, q4, q5⟩ := q3 (by omega)
      have ld := ld_Drow wr _ _ rfl h1
      have st := st_D wr (W.heap.size + 1) zD (dkA g0 x.1.1.length g1 x.2.1.length) rfl rfl (by simp [dkA, Value.oneCell']) h2
      have HF : Hid ((wr.setRow (W.heap.size + 1) (dkA g0 x.1.1.length g1 x.2.1.length)).heap[W.heap.size + 1]? = some (.cells (dkA g0 x.1.1.length g1 x.2.1.length) 26 (0, 0)) ∧ DkP W x (dkA g0 x.1.1.length g1 x.2.1.length) (wr.setRow (W.heap.size + 1) (dkA g0 x.1.1.length g1 x.2.1.length))) := by
        refine ⟨setRow_heap _ _ _ _ _ _ h2, g0, g1, rfl, (setRow_other _ _ _ _ (by omega)).trans q2, (setRow_other _ _ _ _ (by omega)).trans q5, by omega, by omega, by omega, below_setRow h3 (by omega) _⟩
      clear h1 h2 h3 h4 q1 q2 q3 q4 q5 HR HS HC
      unfold dkA at HF st
      go_wp2_with fail
      refine bodyPost_ret (results_D rfl _ _ (W.heap.size + 1) _ rfl rfl HF.out.1) rfl ?_
      exact ⟨_, rfl, HF.out.2⟩
end
end Go.Proofs.YtfimaflglnemdaaDoor.Dev

/- The journal's device: Disk, At. -/
namespace Go.Proofs.YtfimaflglnemdaaDoor.Dev
open Go.RowKit
set_option maxRecDepth 20000
theorem DkP.sub {W X : World} {x : Sp} {c : Array Value} {w' : World} (h : DkP X x c w') (hb : Below W.heap.size W X) : DkP W x c w' := by
  obtain ⟨g0, g1, h1, h2, h3, h4, h5, h6, h7⟩ := h
  have := hb.size
  exact ⟨g0, g1, h1, h2, h3, by omega, by omega, h6, hb.trans (h7.mono hb.size)⟩
theorem DkP.setR {W : World} {x : Sp} {c : Array Value} {w' : World} (h : DkP W x c w') (B : Nat) (C : Array Value) (hB : W.heap.size ≤ B) (hlt : ∀ g0 g1, c = dkA g0 x.1.1.length g1 x.2.1.length → g0 ≠ B ∧ g1 ≠ B) : DkP W x c (w'.setRow B C) := by
  obtain ⟨g0, g1, h1, h2, h3, h4, h5, h6, h7⟩ := h
  obtain ⟨q0, q1⟩ := hlt g0 g1 h1
  exact ⟨g0, g1, h1, (setRow_other _ _ _ _ q0).trans h2, (setRow_other _ _ _ _ q1).trans h3, h4, h5, h6, below_setRow h7 hB _⟩
theorem dkA_inj {a b c d e f g h : Nat} (q : dkA a b c d = dkA e f g h) : a = e ∧ c = g := by
  have := congrArg Array.toList q
  simp only [dkA, List.cons.injEq, Value.slice.injEq, Option.some.injEq, Addr.mk.injEq, and_true] at this
  exact ⟨this.1.1, this.2.1⟩
theorem DkP.bel {W : World} {x : Sp} {c : Array Value} {w' : World} (h : DkP W x c w') : Below W.heap.size W w' := by
  obtain ⟨_, _, _, _, _, _, _, _, h⟩ := h
  exact h
theorem DkP.one {W : World} {x : Sp} {c : Array Value} {w' : World} (h : DkP W x c w') : c.size = 2 ∧ c.all (·.oneCell') = true := by
  obtain ⟨g0, g1, rfl, _⟩ := h
  exact ⟨rfl, by simp [dkA, Value.oneCell']⟩
/-- A disk that was handed out at X lies in blocks from there on. -/
theorem DkP.hi {W : World} {x : Sp} {c : Array Value} {w' : World} (h : DkP W x c w') (B : Nat) (hB : B < W.heap.size) : ∀ g0 g1, c = dkA g0 x.1.1.length g1 x.2.1.length → g0 ≠ B ∧ g1 ≠ B := fun g0 g1 e => by
  obtain ⟨a, b, h1, _, _, h4, h5, _⟩ := h
  obtain ⟨rfl, rfl⟩ := dkA_inj (h1.symm.trans e)
  exact ⟨by omega, by omega⟩
section
attribute [local go_sem ↓] toLdD toStD
set_option maxRecDepth 100000 in
theorem Disk_any [Inhabited HoleT] {lo v : Nat} {W : World} {lv : Value} {f : Array Value} {ms : List (Array Value)} {sp : List Sp} (h : Dv lo W v lv f ms sp) (x : Sp) (hx : sp[ms.length]? = some x) (hbig : ms.length < 9223372036854775807) : Calls Tryd.prog 27 #[.pointer (some ⟨v, 0, none⟩)] W fun e w' => ∃ c, e = .returned (.agg c) ∧ DkP W x c w' := by
  obtain ⟨W1, hW1⟩ : ∃ W1, W.alloc (.cells zD 26) = W1 := ⟨_, rfl⟩
  have bW : Below W.heap.size W W1 := by rw [← hW1]; exact (Below.refl _ W).alloc (Nat.le_refl _) _
  have r1 : W1.heap[W.heap.size]? = some (.cells zD 26 (0, 0)) := by rw [← hW1]; exact heap_alloc_new _ _
  have h1 := h.below bW
  have C1 : Hid _ := count_any h1
  have C2 : Hid _ := at_any h1 ms.length x hx hbig
  have HW : Hid (W.alloc (.cells zD 26) = W1) := hW1
  have HR : Hid (Below W.heap.size W W1 ∧ W1.heap[W.heap.size]? = some (.cells zD 26 (0, 0))) := ⟨bW, r1⟩
  clear hW1 bW r1 h1 h hx hbig
  unfold zD at HW
  go_enter Tryd.func27, Tryd.ntmps27
  go_wp2_with fail
  rw [HW.out]
  refine Calls.mono C1.out ?_
  rintro e w' ⟨rfl, hw⟩
  have hw2 := hw.symm
  subst hw2
  go_wp2_with fail
  refine Calls.mono C2.out ?_
  rintro e X ⟨m, rfl, hm, hX⟩
  have C3 : Hid _ := disk_any _ m x X hm (fun j hj => Nat.lt_of_lt_of_le hj.2.1 hX.size)
  have HX : Hid (Below W1.heap.size W1 X) := hX
  clear hm hX C1 C2
  go_wp2_with fail
  refine Calls.mono C3.out ?_
  rintro e Y ⟨c, rfl, hD⟩
  have hz1 : W.heap.size < W1.heap.size := (Array.getElem?_eq_some_iff.1 HR.out.2).1
  have hzX := HX.out.size
  have bX : Below W.heap.size W X := HR.out.1.trans (HX.out.mono HR.out.1.size)
  have hbY := hD.bel
  have rY : Y.heap[W.heap.size]? = some (.cells zD 26 (0, 0)) := (hbY.block _ (by omega)).trans ((HX.out.block _ hz1).trans HR.out.2)
  have st := st_D Y W.heap.size zD c rfl hD.one.1 hD.one.2 rY
  have HF : Hid ((Y.setRow W.heap.size c).heap[W.heap.size]? = some (.cells c 26 (0, 0)) ∧ DkP W x c (Y.setRow W.heap.size c) ∧ c.size = 2) := ⟨setRow_heap _ _ _ _ _ _ rY, (hD.sub bX).setR _ _ (Nat.le_refl _) (hD.hi _ (by omega)), hD.one.1⟩
  clear hD hz1 hzX bX hbY rY C3
  go_wp2_with fail
  refine bodyPost_ret (results_D rfl _ _ W.heap.size _ HF.out.2.2 rfl HF.out.1) rfl ?_
  exact ⟨_, rfl, HF.out.2.1⟩
end
def keepN (x : List Nat × Nat) (k : Nat) : Nat := x.2 + min k (x.1.length - x.2)
def cutP (x : List Nat × Nat) (k : Nat) : List Nat × Nat := (x.1.take (keepN x k), min x.2 (keepN x k))
theorem st_C0 (w : World) (g : Nat) (a b c c0 c1 c2 c3 c4 c5 : Value) (h1 : (#[a, b, c] : Array Value).all (·.oneCell') = true) (hg : w.heap[g]? = some (.cells #[c0, c1, c2, c3, c4, c5] 90 (0, 0))) : (stC (.pointer (some ⟨g, 0, none⟩)) (.agg #[a, b, c])).run Tryd.prog w = .ok () (w.setRow g #[a, b, c, c3, c4, c5]) := by
  have ht : w.there g 0 3 := fun j hj => by
    have e : w.cell? ⟨g, 0 + j, none⟩ = (#[c0, c1, c2, c3, c4, c5] : Array Value)[0 + j]? := by rw [cell_of_row _ _ _ _ _ _ hg]
    refine ⟨?_, frozen_of_row _ _ _ _ _ hg⟩
    rw [e, Array.getElem?_eq_getElem (by simp; omega)]
    rfl
  have := run_storeAt_mid (P := Tryd.prog) w g 0 88 #[a, b, c] ht (by rw [sizeC]; rfl) h1
  unfold stC
  rw [this]
  congr 1
  simp only [World.setCells]
  rw [setCell_eq_setRow w g 0 _ _ _ _ hg, setCell_eq_setRow _ g _ _ _ _ _ (setRow_heap _ _ _ _ _ _ hg), setRow_setRow, setCell_eq_setRow _ g _ _ _ _ _ (setRow_heap _ _ _ _ _ _ hg), setRow_setRow]
  rfl
theorem st_C1 (w : World) (g : Nat) (a b c c0 c1 c2 c3 c4 c5 : Value) (h1 : (#[a, b, c] : Array Value).all (·.oneCell') = true) (hg : w.heap[g]? = some (.cells #[c0, c1, c2, c3, c4, c5] 90 (0, 0))) : (stC (.pointer (some ⟨g, 3, none⟩)) (.agg #[a, b, c])).run Tryd.prog w = .ok () (w.setRow g #[c0, c1, c2, a, b, c]) := by
  have ht : w.there g 3 3 := fun j hj => by
    have e : w.cell? ⟨g, 3 + j, none⟩ = (#[c0, c1, c2, c3, c4, c5] : Array Value)[3 + j]? := by rw [cell_of_row _ _ _ _ _ _ hg]
    refine ⟨?_, frozen_of_row _ _ _ _ _ hg⟩
    rw [e, Array.getElem?_eq_getElem (by simp; omega)]
    rfl
  have := run_storeAt_mid (P := Tryd.prog) w g 3 88 #[a, b, c] ht (by rw [sizeC]; rfl) h1
  unfold stC
  rw [this]
  congr 1
  simp only [World.setCells]
  rw [setCell_eq_setRow w g 3 _ _ _ _ hg, setCell_eq_setRow _ g _ _ _ _ _ (setRow_heap _ _ _ _ _ _ hg), setRow_setRow, setCell_eq_setRow _ g _ _ _ _ _ (setRow_heap _ _ _ _ _ _ hg), setRow_setRow]
  rfl
/-- What stands while a moment is cut. -/
structure AtR (Q : Nat → Prop) (W : World) (mb k0 k1 : Nat) (m0 : Array Value) (x0 : Sp) (y : Sp) (wr : World) : Prop where
  bel : Below W.heap.size W wr
  keep : wr.heap[W.heap.size]? = some (.cells #[.int .i64 (k0 : Int), .int .i64 (k1 : Int)] 34 (0, 0))
  res : wr.heap[W.heap.size + 1]? = some (.cells zD 26 (0, 0))
  row : ∃ m, wr.heap[mb]? = some (.cells m 90 (0, 0)) ∧ Mo Q wr m y
  orig : Mo Q wr m0 x0
theorem AtR.next0 {Q : Nat → Prop} {W : World} {mb k0 k1 : Nat} {m0 : Array Value} {x0 y : Sp} {wr : World} (hQ : ∀ j, Q j → j < mb) (hmb : W.heap.size + 2 ≤ mb) (h : AtR Q W mb k0 k1 m0 x0 y wr) (c : Obj) {X : World} (hb : Below (wr.alloc c).drew.heap.size (wr.alloc c).drew X) {c' : Array Value} {z : List Nat × Nat} (hc : Cn Q X c' z.1 z.2) :
    ∃ (p0 : Option Addr) (N s : Nat) (R : Array Value), c' = #[.pointer p0, .int .i64 (N : Int), .int .i64 (s : Int)] ∧ (stC (.pointer (some ⟨mb, 0, none⟩)) (.agg #[.pointer p0, .int .i64 (N : Int), .int .i64 (s : Int)])).run Tryd.prog X = .ok () (X.setRow mb R) ∧ AtR Q W mb k0 k1 m0 x0 (z, y.2) (X.setRow mb R) := by
  obtain ⟨m, hr, p0, p1, rfl, h0, h1⟩ := h.row
  obtain ⟨p, rfl, hc1, hc2⟩ := id hc
  have hz : mb < wr.heap.size := (Array.getElem?_eq_some_iff.1 hr).1
  have hza : (wr.alloc c).drew.heap.size = wr.heap.size + 1 := by show (wr.alloc c).heap.size = _; simp
  have kp : ∀ j, j < wr.heap.size → X.heap[j]? = wr.heap[j]? := fun j hj => (hb.block j (by omega)).trans (heap_alloc_old wr c (h := hj))
  have hrX := (kp mb hz).trans hr
  have hzs := h.bel.size
  have bX : Below W.heap.size W X := by
    have b1 := h.bel.alloc (by omega) c
    exact ⟨hb.os.trans b1.os, hb.tape.trans b1.tape, hb.output.trans b1.output, by have := hb.size; omega, fun j hj => (kp j (by omega)).trans (h.bel.block j hj)⟩
  refine ⟨p, z.1.length, z.2, momA p z.1.length z.2 p1 y.2.1.length y.2.2, rfl, st_C0 X mb _ _ _ _ _ _ _ _ _ (by simp [Value.oneCell']) hrX, ⟨below_setRow bX (by omega) _, (setRow_other _ _ _ _ (by omega)).trans ((kp _ (by omega)).trans h.keep), (setRow_other _ _ _ _ (by omega)).trans ((kp _ (by omega)).trans h.res), ⟨_, setRow_heap _ _ _ _ _ _ hrX, ⟨p, p1, rfl, ?_, ?_⟩⟩, h.orig.keep (fun j hj => (setRow_other _ _ _ _ (by have := hQ j hj; omega)).trans (kp j (by have := hQ j hj; omega))) (fun _ h => h)⟩⟩
  · exact hc.keep (fun j hj => setRow_other _ _ _ _ (by have := hQ j hj; omega)) (fun _ h => h)
  · exact h1.keep (fun j hj => (setRow_other _ _ _ _ (by have := hQ j hj; omega)).trans (kp j (by have := hQ j hj; omega))) (fun _ h => h)
theorem AtR.next1 {Q : Nat → Prop} {W : World} {mb k0 k1 : Nat} {m0 : Array Value} {x0 y : Sp} {wr : World} (hQ : ∀ j, Q j → j < mb) (hmb : W.heap.size + 2 ≤ mb) (h : AtR Q W mb k0 k1 m0 x0 y wr) (c : Obj) {X : World} (hb : Below (wr.alloc c).drew.heap.size (wr.alloc c).drew X) {c' : Array Value} {z : List Nat × Nat} (hc : Cn Q X c' z.1 z.2) :
    ∃ (p0 : Option Addr) (N s : Nat) (R : Array Value), c' = #[.pointer p0, .int .i64 (N : Int), .int .i64 (s : Int)] ∧ (stC (.pointer (some ⟨mb, 3, none⟩)) (.agg #[.pointer p0, .int .i64 (N : Int), .int .i64 (s : Int)])).run Tryd.prog X = .ok () (X.setRow mb R) ∧ AtR Q W mb k0 k1 m0 x0 (y.1, z) (X.setRow mb R) := by
  obtain ⟨m, hr, p0, p1, rfl, h0, h1⟩ := h.row
  obtain ⟨p, rfl, hc1, hc2⟩ := id hc
  have hz : mb < wr.heap.size := (Array.getElem?_eq_some_iff.1 hr).1
  have hza : (wr.alloc c).drew.heap.size = wr.heap.size + 1 := by show (wr.alloc c).heap.size = _; simp
  have kp : ∀ j, j < wr.heap.size → X.heap[j]? = wr.heap[j]? := fun j hj => (hb.block j (by omega)).trans (heap_alloc_old wr c (h := hj))
  have hrX := (kp mb hz).trans hr
  have hzs := h.bel.size
  have bX : Below W.heap.size W X := by
    have b1 := h.bel.alloc (by omega) c
    exact ⟨hb.os.trans b1.os, hb.tape.trans b1.tape, hb.output.trans b1.output, by have := hb.size; omega, fun j hj => (kp j (by omega)).trans (h.bel.block j hj)⟩
  refine ⟨p, z.1.length, z.2, momA p0 y.1.1.length y.1.2 p z.1.length z.2, rfl, st_C1 X mb _ _ _ _ _ _ _ _ _ (by simp [Value.oneCell']) hrX, ⟨below_setRow bX (by omega) _, (setRow_other _ _ _ _ (by omega)).trans ((kp _ (by omega)).trans h.keep), (setRow_other _ _ _ _ (by omega)).trans ((kp _ (by omega)).trans h.res), ⟨_, setRow_heap _ _ _ _ _ _ hrX, ⟨p0, p, rfl, ?_, ?_⟩⟩, h.orig.keep (fun j hj => (setRow_other _ _ _ _ (by have := hQ j hj; omega)).trans (kp j (by have := hQ j hj; omega))) (fun _ h => h)⟩⟩
  · exact h0.keep (fun j hj => (setRow_other _ _ _ _ (by have := hQ j hj; omega)).trans (kp j (by have := hQ j hj; omega))) (fun _ h => h)
  · exact hc.keep (fun j hj => setRow_other _ _ _ _ (by have := hQ j hj; omega)) (fun _ h => h)
end Go.Proofs.YtfimaflglnemdaaDoor.Dev
