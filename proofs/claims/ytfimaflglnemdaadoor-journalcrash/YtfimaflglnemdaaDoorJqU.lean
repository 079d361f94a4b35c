/- Several texts in one: JrX, JrY. -/
import Derived.Test.YtfimaflglnemdaaDoorJrW
import Derived.Defers
import Derived.Recover
/- JournalReplays: a file, whatever it panics with. -/
namespace Go.Proofs.YtfimaflglnemdaaDoor
open Go.RowKit
open JM
theorem Told.keep {B fl : Nat} {w w' : World} {s : St} {t0 t1 t2 t3 t4 t5 : Value} (h : Told B fl w s t0 t1 t2 t3 t4 t5) (hk : Stay B (fun t => t = 5 ∨ t = 23 ∨ t = 27) w w') : Told B fl w' s t0 t1 t2 t3 t4 t5 := by
  unfold Told at *
  split
  · rename_i hl
    rw [if_pos hl] at h
    exact ⟨h.1, h.2.1, h.2.2.1, h.2.2.2.1, h.2.2.2.2.1.keep (fun k c t hB ht hc => hk k c t hB (ht.elim .inl (fun h => .inr (.inl h))) hc), h.2.2.2.2.2.keep hk⟩
  · rename_i hl
    rw [if_neg hl] at h
    exact h
theorem Told.mono {B B' fl : Nat} {w : World} {s : St} {t0 t1 t2 t3 t4 t5 : Value} (h : Told B fl w s t0 t1 t2 t3 t4 t5) (hb : B' ≤ B) : Told B' fl w s t0 t1 t2 t3 t4 t5 := by
  unfold Told at *
  split
  · rename_i hl
    rw [if_pos hl] at h
    exact ⟨h.1, h.2.1, h.2.2.1, h.2.2.2.1, h.2.2.2.2.1.mono hb, h.2.2.2.2.2.mono hb⟩
  · rename_i hl
    rw [if_neg hl] at h
    exact h
theorem sizeBr : (Tryd.prog.info? 112).map (·.size) = some 2 := by kernel_rfl
def stBr (p v : Value) : Sem Unit := Instr.storeAt 112 p v
theorem toStBr (p v : Value) : Instr.storeAt 112 p v = stBr p v := rfl
theorem st_Br (w : World) (g : Nat) (C D : Array Value) (hC : C.size = 2) (hD : D.size = 2) (h1 : D.all (·.oneCell') = true) (hg : w.heap[g]? = some (.cells C 112 (0, 0))) : (stBr (.pointer (some ⟨g, 0, none⟩)) (.agg D)).run Tryd.prog w = .ok () (w.setRow g D) := by
  unfold stBr
  simp only [Instr.storeAt, Instr.sureAddr, Sem.run_bind, Sem.run_pure, Result.andThen_ok, run_storeVar_row w g 112 112 C D hg (by rw [sizeBr, hD]) (by rw [hD, hC]) h1]
theorem st_StR (w : World) (g : Nat) (C D : Array Value) (hC : C.size = 6) (hD : D.size = 6) (h1 : D.all (·.oneCell') = true) (hg : w.heap[g]? = some (.cells C 47 (0, 0))) : (stSt (.pointer (some ⟨g, 0, none⟩)) (.agg D)).run Tryd.prog w = .ok () (w.setRow g D) := by
  unfold stSt
  simp only [Instr.storeAt, Instr.sureAddr, Sem.run_bind, Sem.run_pure, Result.andThen_ok, run_storeVar_row w g 47 47 C D hg (by rw [sizeSt, hD]) (by rw [hD, hC]) h1]
/-- What the deferred function finds. -/
structure Clo (w : World) (bb rp sb g : Nat) (dv t0 t1 t2 t3 t4 t5 : Value) : Prop where
  b : ∃ C : Array Value, C.size = 2 ∧ w.heap[bb]? = some (.cells C 112 (0, 0))
  s : ∃ C : Array Value, C.size = 6 ∧ w.heap[sb]? = some (.cells C 47 (0, 0))
  r : w.cell? ⟨rp, 0, none⟩ = some (.pointer (some ⟨g, 0, none⟩))
  gg : ∃ q f : Nat, w.heap[g]? = some (.cells (rdA dv q f t0 t1 t2 t3 t4 t5) 130 (0, 0))
  n1 : bb ≠ sb
  n2 : rp ≠ bb
  n3 : g ≠ bb
  o : (#[t0, t1, t2, t3, t4, t5] : Array Value).all (·.oneCell') = true
theorem told_range {w : World} {g : Nat} {dv t0 t1 t2 t3 t4 t5 : Value} {a f : Nat} (h : w.heap[g]? = some (.cells (rdA dv a f t0 t1 t2 t3 t4 t5) 130 (0, 0))) : w.rangeAt g 3 (#[t0, t1, t2, t3, t4, t5] : Array Value).toList := by
  have := World.rangeAt_of_block h 3 6
  simpa [rdA] using this
theorem clo_facts {w : World} {bb rp sb g : Nat} {dv t0 t1 t2 t3 t4 t5 : Value} (h : Clo w bb rp sb g dv t0 t1 t2 t3 t4 t5) (D : Array Value) (hD : D.size = 2) (h1 : D.all (·.oneCell') = true) :
    (stBr (.pointer (some ⟨bb, 0, none⟩)) (.agg D)).run Tryd.prog w = .ok () (w.setRow bb D) ∧ (w.setRow bb D).cell? ⟨rp, 0, none⟩ = some (.pointer (some ⟨g, 0, none⟩)) ∧
    (ldSt (.pointer (some ⟨g, 3, none⟩))).run Tryd.prog (w.setRow bb D) = .ok (.agg #[t0, t1, t2, t3, t4, t5]) (w.setRow bb D) ∧ (stSt (.pointer (some ⟨sb, 0, none⟩)) (.agg #[t0, t1, t2, t3, t4, t5])).run Tryd.prog (w.setRow bb D) = .ok () ((w.setRow bb D).setRow sb #[t0, t1, t2, t3, t4, t5]) := by
  obtain ⟨C, hC, hb⟩ := h.b
  obtain ⟨C2, hC2, hs⟩ := h.s
  obtain ⟨q, f, hg⟩ := h.gg
  refine ⟨st_Br w bb C D hC hD h1 hb, ?_, ?_, ?_⟩
  · exact (World.cell?_of_block (w := w) (a := ⟨rp, 0, none⟩) (setRow_other w bb rp D h.n2)).trans h.r
  · exact ld_St _ g 3 _ rfl (told_range ((setRow_other w bb g D h.n3).trans hg))
  · exact st_StR _ sb C2 _ hC2 rfl h.o ((setRow_other w bb sb D (Ne.symm h.n1)).trans hs)
theorem asY (W : World) (v : Value) : (Instr.typeAssert (.iface 112 v) 20 112 true).run Tryd.prog W = .ok (.tuple #[v, .bool true]) W := by kernel_rfl
theorem asN (W : World) : (Instr.typeAssert .nilIface 20 112 true).run Tryd.prog W = .ok (.tuple #[.agg #[.bool false, .int .i64 0], .bool false]) W := by kernel_rfl
def asT (x : Value) (a b : Nat) (c : Bool) : Sem Value := Instr.typeAssert x a b c
theorem toAsT (x : Value) (a b : Nat) (c : Bool) : Instr.typeAssert x a b c = asT x a b c := rfl
attribute [local go_sem ↓] toLdSt toStSt toStBr toAsT in
set_option maxRecDepth 100000 in
set_option maxHeartbeats 1000000 in
theorem catch_panicking {w : World} {bb rp sb g : Nat} {dv t0 t1 t2 t3 t4 t5 : Value} (h : Clo w bb rp sb g dv t0 t1 t2 t3 t4 t5) (sp : Bool) (n : Nat) (older : List PanicEntry) :
    CallsD Tryd.prog 71 #[.pointer (some ⟨bb, 0, none⟩), .pointer (some ⟨rp, 0, none⟩), .pointer (some ⟨sb, 0, none⟩)] (.panicking ({ v := brV sp n, recovered := false } :: older)) w fun e u' w' =>
      e = .returned (.tuple #[]) ∧ u' = .panicking ({ v := brV sp n, recovered := true } :: older) ∧ w' = (w.setRow bb #[.bool sp, .int .i64 (n : Int)]).setRow sb #[t0, t1, t2, t3, t4, t5] := by
  obtain ⟨e1, e2, e3, e4⟩ := clo_facts h #[.bool sp, .int .i64 (n : Int)] rfl (by simp [Value.oneCell'])
  have hA : (asT (brV sp n) 20 112 true).run Tryd.prog w = .ok (.tuple #[.agg #[.bool sp, .int .i64 (n : Int)], .bool true]) w := asY w _
  refine callsD_of_wpS Tryd.func71 rfl fun c₀ cs hu => ?_
  show Code.wpS Tryd.prog _ _ ⟨#[.pointer (some ⟨bb, 0, none⟩), .pointer (some ⟨rp, 0, none⟩), .pointer (some ⟨sb, 0, none⟩), undef, undef, undef, undef, undef, undef, undef, undef, undef], []⟩ _ _
  generalize brV sp n = bv at *
  apply wpS_seq
  apply wpS_region
  simp [wpOpsS, go_sem, recoverD, hu, Exit.thenS, hA, e1]
  apply wpS_region
  simp [wpOpsS, go_sem, e2, e3, e4, bodyPostS, results, Tryd.results71]
attribute [local go_sem ↓] toLdSt toStSt toStBr toAsT in
set_option maxRecDepth 100000 in
set_option maxHeartbeats 1000000 in
theorem catch_idle {w : World} {bb rp sb g : Nat} {dv t0 t1 t2 t3 t4 t5 : Value} (h : Clo w bb rp sb g dv t0 t1 t2 t3 t4 t5) :
    CallsD Tryd.prog 71 #[.pointer (some ⟨bb, 0, none⟩), .pointer (some ⟨rp, 0, none⟩), .pointer (some ⟨sb, 0, none⟩)] .returning w fun e u' w' =>
      e = .returned (.tuple #[]) ∧ u' = .returning ∧ w' = (w.setRow bb #[.bool false, .int .i64 0]).setRow sb #[t0, t1, t2, t3, t4, t5] := by
  obtain ⟨e1, e2, e3, e4⟩ := clo_facts h #[.bool false, .int .i64 0] rfl (by simp [Value.oneCell'])
  have hA : (asT .nilIface 20 112 true).run Tryd.prog w = .ok (.tuple #[.agg #[.bool false, .int .i64 0], .bool false]) w := asN w
  refine callsD_of_wpS Tryd.func71 rfl fun c₀ cs hu => ?_
  show Code.wpS Tryd.prog _ _ ⟨#[.pointer (some ⟨bb, 0, none⟩), .pointer (some ⟨rp, 0, none⟩), .pointer (some ⟨sb, 0, none⟩), undef, undef, undef, undef, undef, undef, undef, undef, undef], []⟩ _ _
  apply wpS_seq
  apply wpS_region
  simp [wpOpsS, go_sem, recoverD, hu, Exit.thenS, hA, e1]
  apply wpS_region
  simp [wpOpsS, go_sem, e2, e3, e4, bodyPostS, results, Tryd.results71]
  cases c₀
  simp_all
end Go.Proofs.YtfimaflglnemdaaDoor

/- JournalReplays: readFile. -/
namespace Go.Proofs.YtfimaflglnemdaaDoor
open Go.RowKit
open JM
/-- What a file comes to. -/
def FileP (W : World) (fl : Nat) (l : List Nat) (e : Ending) (w' : World) : Prop :=
  Below W.heap.size W w' ∧ ∃ (t0 t1 t2 t3 t4 t5 : Value) (sp : Bool) (n : Nat), e = .returned (.tuple #[.agg #[t0, t1, t2, t3, t4, t5], .agg #[.bool sp, .int .i64 (n : Int)]]) ∧ Told W.heap.size fl w' (file crcN l).1 t0 t1 t2 t3 t4 t5 ∧
  (#[t0, t1, t2, t3, t4, t5] : Array Value).all (·.oneCell') = true ∧
  match (file crcN l).2 with
  | some p => sp = true ∧ n = p
  | none => sp = false
theorem Told.one {B fl : Nat} {w : World} {s : St} {t0 t1 t2 t3 t4 t5 : Value} (h : Told B fl w s t0 t1 t2 t3 t4 t5) : (#[t0, t1, t2, t3, t4, t5] : Array Value).all (·.oneCell') = true := by
  unfold Told at h
  split at h
  · obtain ⟨rfl, rfl, rfl, rfl, h1, h2⟩ := h
    obtain ⟨o, c, rfl⟩ := h1.sl
    obtain ⟨o, c, rfl⟩ := h2.sl
    simp [Value.oneCell']
  · obtain ⟨rfl, rfl, rfl, rfl, rfl, rfl⟩ := h
    simp [Value.oneCell']
theorem results_Rf (tmps : Array Value) (w : World) (sb bb : Nat) (C D : Array Value) (hC : C.size = 6) (hD : D.size = 2)
    (hp : tmps.getD 4 undef = .pointer (some ⟨sb, 0, none⟩)) (hp2 : tmps.getD 5 undef = .pointer (some ⟨bb, 0, none⟩)) (hg : w.heap[sb]? = some (.cells C 47 (0, 0))) (hg2 : w.heap[bb]? = some (.cells D 112 (0, 0))) :
    (results Tryd.f56 tmps).run Tryd.prog w = .ok (.tuple #[.agg C, .agg D]) w := by
  have hp' : tmps[4]?.getD undef = .pointer (some ⟨sb, 0, none⟩) := by simpa using hp
  have hq' : tmps[5]?.getD undef = .pointer (some ⟨bb, 0, none⟩) := by simpa using hp2
  simp [results, Tryd.results56, hp', hq', asAddr, run_loadVar_row w sb 47 47 C (0, 0) _ hg Tryd.underlying47 rfl (by rw [sizeSt, hC]), run_loadVar_row w bb 112 112 D (0, 0) _ hg2 Tryd.underlying112 rfl (by rw [sizeBr, hD])]
theorem al4 (W : World) (a b c d : Obj) : ((((W.alloc a).alloc b).alloc c).alloc d).heap[W.heap.size]? = some a ∧ ((((W.alloc a).alloc b).alloc c).alloc d).heap[W.heap.size + 1]? = some b ∧ ((((W.alloc a).alloc b).alloc c).alloc d).heap[W.heap.size + 1 + 1]? = some c ∧ ((((W.alloc a).alloc b).alloc c).alloc d).heap[W.heap.size + 1 + 1 + 1]? = some d := by
  have s1 : (W.alloc a).heap.size = W.heap.size + 1 := by simp
  have s2 : ((W.alloc a).alloc b).heap.size = W.heap.size + 1 + 1 := by simp
  have s3 : (((W.alloc a).alloc b).alloc c).heap.size = W.heap.size + 1 + 1 + 1 := by simp
  have n1 := heap_alloc_new W a
  have n2 := heap_alloc_new (W.alloc a) b
  have n3 := heap_alloc_new ((W.alloc a).alloc b) c
  have n4 := heap_alloc_new (((W.alloc a).alloc b).alloc c) d
  rw [s1] at n2
  rw [s2] at n3
  rw [s3] at n4
  exact ⟨(heap_alloc_old _ _ (h := by omega)).trans ((heap_alloc_old _ _ (h := by omega)).trans ((heap_alloc_old _ _ (h := by omega)).trans n1)), (heap_alloc_old _ _ (h := by omega)).trans ((heap_alloc_old _ _ (h := by omega)).trans n2), (heap_alloc_old _ _ (h := by omega)).trans n3, n4⟩
attribute [local go_sem ↓] toLdSt toStSt toStBr in
set_option maxRecDepth 100000 in
set_option maxHeartbeats 3200000 in
theorem readFile_any (W : World) {cD fl : Nat} {oD : Option Addr} {l : List Nat} (hD : Bl W (.slice oD l.length cD) l) (hlim : l.length ≤ 99999999) (hT : Tc W) :
    Calls Tryd.prog 56 #[.int .i64 (fl : Int), .slice oD l.length cD] W (FileP W fl l) := by
  have hmf : ∀ (fn : Fn) (first cap : Array Value) (w : World), (Instr.makeFunc fn first cap).run Tryd.prog w = .ok (.func fn first cap) w := fun _ _ _ _ => rfl
  obtain ⟨V, hV⟩ : ∃ V, (((W.alloc (.cells #[.int .i64 0, .int .i64 0, .int .i64 0, .int .i64 0, .slice none 0 0, .slice none 0 0] 47)).alloc (.cells #[.bool false, .int .i64 0] 112)).alloc (.cells #[.slice oD l.length cD, .int .i64 0, .int .i64 0, .int .i64 (-1), .int .i64 0, .int .i64 0, .int .i64 0, .slice none 0 0, .slice none 0 0] 130)).alloc (.cells #[.pointer (some ⟨W.heap.size + 1 + 1, 0, none⟩)] 128) = V := ⟨_, rfl⟩
  have vb : Below W.heap.size W V := by rw [← hV]; exact ((((Below.refl _ W).alloc (Nat.le_refl _) _).alloc (by simp) _).alloc (by simp; omega) _).alloc (by simp; omega) _
  have vs : V.heap.size = W.heap.size + 1 + 1 + 1 + 1 := by rw [← hV]; simp
  have v0 : V.heap[W.heap.size]? = some (.cells #[.int .i64 0, .int .i64 0, .int .i64 0, .int .i64 0, .slice none 0 0, .slice none 0 0] 47 (0, 0)) := by rw [← hV]; exact (al4 W _ _ _ _).1
  have v1 : V.heap[W.heap.size + 1]? = some (.cells #[.bool false, .int .i64 0] 112 (0, 0)) := by rw [← hV]; exact (al4 W _ _ _ _).2.1
  have v2 : V.heap[W.heap.size + 1 + 1]? = some (.cells (rdA (.slice oD l.length cD) 0 0 (.int .i64 (-1)) (.int .i64 0) (.int .i64 0) (.int .i64 0) (.slice none 0 0) (.slice none 0 0)) 130 (0, 0)) := by rw [← hV]; exact (al4 W _ _ _ _).2.2.1
  have v3 : V.heap[W.heap.size + 1 + 1 + 1]? = some (.cells #[.pointer (some ⟨W.heap.size + 1 + 1, 0, none⟩)] 128 (0, 0)) := by rw [← hV]; exact (al4 W _ _ _ _).2.2.2
  have c3 : V.cell? ⟨W.heap.size + 1 + 1 + 1, 0, none⟩ = some (.pointer (some ⟨W.heap.size + 1 + 1, 0, none⟩)) := (cell_of_row _ _ _ _ _ _ v3).trans rfl
  have hTl := hT.sz
  have CS := story_any W V (fl := fl) v2 hD hlim (by omega) (fun j hj => vb.block j hj) (hT.below vb hTl) (by omega)
  replace v0 := mkHid v0
  replace v1 := mkHid v1
  replace v2 := mkHid v2
  replace v3 := mkHid v3
  replace vb := mkHid vb
  replace vs := mkHid vs
  clear hD hT
  go_enter_defers Tryd.func56, Tryd.ntmps56
  go_wp2_with fail
  refine CS.mono ?_
  clear CS hV c3
  rintro e w ⟨hb, ⟨q, f, t0, t1, t2, t3, t4, t5, hg, hTo⟩, hm⟩
  have hone := hTo.one
  have hvs := vs.out
  have w0 := (hb.block W.heap.size (by omega) (by omega)).trans v0.out
  have w1 := (hb.block (W.heap.size + 1) (by omega) (by omega)).trans v1.out
  have w3 := (hb.block (W.heap.size + 1 + 1 + 1) (by omega) (by omega)).trans v3.out
  have r3 : w.cell? ⟨W.heap.size + 1 + 1 + 1, 0, none⟩ = some (.pointer (some ⟨W.heap.size + 1 + 1, 0, none⟩)) := (cell_of_row _ _ _ _ _ _ w3).trans rfl
  have hC : Clo w (W.heap.size + 1) (W.heap.size + 1 + 1 + 1) W.heap.size (W.heap.size + 1 + 1) (.slice oD l.length cD) t0 t1 t2 t3 t4 t5 := ⟨⟨_, rfl, w1⟩, ⟨_, rfl, w0⟩, r3, ⟨q, f, hg⟩, by omega, by omega, by omega, hone⟩
  have HE : ∀ (x : World) (C D : Array Value), D.size = 6 → C.size = 2 → (∀ k, k < V.heap.size → k ≠ W.heap.size → k ≠ W.heap.size + 1 → x.heap[k]? = w.heap[k]?) → (∀ k, V.heap.size ≤ k → x.heap[k]? = w.heap[k]?) → x.os = w.os → x.tape = w.tape → x.output = w.output → x.heap.size = w.heap.size → x.heap[W.heap.size]? = some (.cells D 47 (0, 0)) → x.heap[W.heap.size + 1]? = some (.cells C 112 (0, 0)) →
      ∀ (sp : Bool) (n : Nat) (tmps : Array Value), tmps.getD 4 undef = .pointer (some ⟨W.heap.size, 0, none⟩) → tmps.getD 5 undef = .pointer (some ⟨W.heap.size + 1, 0, none⟩) → (match (file crcN l).2 with
        | some p => sp = true ∧ n = p
        | none => sp = false) → ∃ v, (results Tryd.f56 tmps).run Tryd.prog ((x.setRow (W.heap.size + 1) #[.bool sp, .int .i64 (n : Int)]).setRow W.heap.size #[t0, t1, t2, t3, t4, t5]) = .ok v ((x.setRow (W.heap.size + 1) #[.bool sp, .int .i64 (n : Int)]).setRow W.heap.size #[t0, t1, t2, t3, t4, t5]) ∧ FileP W fl l (.returned v) ((x.setRow (W.heap.size + 1) #[.bool sp, .int .i64 (n : Int)]).setRow W.heap.size #[t0, t1, t2, t3, t4, t5]) := by
    intro x C D hD hC hx1 hx2 ho ht hp hz hs hbb sp n tmps p4 p5 hmm
    have u1 : (x.setRow (W.heap.size + 1) #[.bool sp, .int .i64 (n : Int)]).heap[W.heap.size]? = some (.cells D 47 (0, 0)) := (setRow_other x _ _ _ (by omega)).trans hs
    have u2 : ((x.setRow (W.heap.size + 1) #[.bool sp, .int .i64 (n : Int)]).setRow W.heap.size #[t0, t1, t2, t3, t4, t5]).heap[W.heap.size]? = some (.cells #[t0, t1, t2, t3, t4, t5] 47 (0, 0)) := setRow_heap _ _ _ _ _ _ u1
    have u3 : ((x.setRow (W.heap.size + 1) #[.bool sp, .int .i64 (n : Int)]).setRow W.heap.size #[t0, t1, t2, t3, t4, t5]).heap[W.heap.size + 1]? = some (.cells #[.bool sp, .int .i64 (n : Int)] 112 (0, 0)) := (setRow_other _ _ _ _ (by omega)).trans (setRow_heap _ _ _ _ _ _ hbb)
    have hoth : ∀ k, k ≠ W.heap.size → k ≠ W.heap.size + 1 → ((x.setRow (W.heap.size + 1) #[.bool sp, .int .i64 (n : Int)]).setRow W.heap.size #[t0, t1, t2, t3, t4, t5]).heap[k]? = w.heap[k]? := fun k h1 h2 => (setRow_other _ _ _ _ h1).trans ((setRow_other _ _ _ _ h2).trans (by
      rcases Nat.lt_or_ge k V.heap.size with h3 | h3
      · exact hx1 k h3 h1 h2
      · exact hx2 k h3))
    refine ⟨_, results_Rf tmps _ W.heap.size (W.heap.size + 1) _ _ rfl rfl p4 p5 u2 u3, ?_, t0, t1, t2, t3, t4, t5, sp, n, rfl, ?_, hone, hmm⟩
    · refine ⟨?_, ?_, ?_, ?_, fun k hk => (hoth k (by omega) (by omega)).trans ((hb.block k (by omega) (by omega)).trans (vb.out.block k hk))⟩
      · exact ho.trans (hb.os.trans vb.out.os)
      · exact ht.trans (hb.tape.trans vb.out.tape)
      · exact hp.trans (hb.output.trans vb.out.output)
      · rw [size_setRow, size_setRow, hz]; exact Nat.le_trans vb.out.size hb.size
    · exact (hTo.keep (fun k c t hB _ _ => hoth k (by omega) (by omega))).mono (by omega)
  have PAN : ∀ (sp : Bool) (n : Nat) (tmps : Array Value), tmps.getD 4 undef = .pointer (some ⟨W.heap.size, 0, none⟩) → tmps.getD 5 undef = .pointer (some ⟨W.heap.size + 1, 0, none⟩) → (match (file crcN l).2 with
        | some p => sp = true ∧ n = p
        | none => sp = false) → Leaves Tryd.prog Tryd.f56 tmps (FileP W fl l) [{ target := .fn (.func 71) #[.pointer (some ⟨W.heap.size + 1, 0, none⟩), .pointer (some ⟨W.heap.size + 1 + 1 + 1, 0, none⟩), .pointer (some ⟨W.heap.size, 0, none⟩)], args := #[] }] (.panicking [{ v := brV sp n, recovered := false }]) w := by
    intro sp n tmps p4 p5 hmm
    refine leaves_cons (f := 71) (args := #[.pointer (some ⟨W.heap.size + 1, 0, none⟩), .pointer (some ⟨W.heap.size + 1 + 1 + 1, 0, none⟩), .pointer (some ⟨W.heap.size, 0, none⟩)]) (by simp) (by simp [go_sem]) ?_
    refine (catch_panicking hC sp n []).mono ?_
    rintro e u' w'' ⟨rfl, rfl, rfl⟩
    exact HE w _ _ rfl rfl (fun _ _ _ _ => rfl) (fun _ _ => rfl) rfl rfl rfl rfl w0 w1 sp n tmps p4 p5 hmm
  cases hR : (file crcN l).2 with
  | some p =>
    rw [hR] at hm PAN
    obtain rfl := hm
    exact PAN true p _ rfl rfl ⟨rfl, rfl⟩
  | none =>
    rw [hR] at hm PAN HE
    rcases hm with rfl | ⟨p, rfl⟩
    · have hL := ld_St w (W.heap.size + 1 + 1) 3 _ rfl (told_range hg)
      have hS := st_StR w W.heap.size _ #[t0, t1, t2, t3, t4, t5] rfl rfl hone w0
      obtain ⟨X1, hX1⟩ : ∃ X1, w.setRow W.heap.size #[t0, t1, t2, t3, t4, t5] = X1 := ⟨_, rfl⟩
      have x1b : X1.heap[W.heap.size + 1]? = some (.cells #[.bool false, .int .i64 0] 112 (0, 0)) := by rw [← hX1]; exact (setRow_other _ _ _ _ (by omega)).trans w1
      have x1s : X1.heap[W.heap.size]? = some (.cells #[t0, t1, t2, t3, t4, t5] 47 (0, 0)) := by rw [← hX1]; exact setRow_heap _ _ _ _ _ _ w0
      have x1o : ∀ k, k ≠ W.heap.size → X1.heap[k]? = w.heap[k]? := fun k hk => by rw [← hX1]; exact setRow_other _ _ _ _ hk
      have x1z : X1.heap.size = w.heap.size := by rw [← hX1, size_setRow]
      have x1w : X1.os = w.os ∧ X1.tape = w.tape ∧ X1.output = w.output := by rw [← hX1]; exact ⟨rfl, rfl, rfl⟩
      have hB := st_Br X1 (W.heap.size + 1) _ #[.bool false, .int .i64 0] rfl rfl (by simp [Value.oneCell']) x1b
      obtain ⟨X2, hX2⟩ : ∃ X2, X1.setRow (W.heap.size + 1) #[.bool false, .int .i64 0] = X2 := ⟨_, rfl⟩
      have x2b : X2.heap[W.heap.size + 1]? = some (.cells #[.bool false, .int .i64 0] 112 (0, 0)) := by rw [← hX2]; exact setRow_heap _ _ _ _ _ _ x1b
      have x2s : X2.heap[W.heap.size]? = some (.cells #[t0, t1, t2, t3, t4, t5] 47 (0, 0)) := by rw [← hX2]; exact (setRow_other _ _ _ _ (by omega)).trans x1s
      have x2o : ∀ k, k ≠ W.heap.size → k ≠ W.heap.size + 1 → X2.heap[k]? = w.heap[k]? := fun k hk hk2 => by rw [← hX2]; exact (setRow_other _ _ _ _ hk2).trans (x1o k hk)
      have x2z : X2.heap.size = w.heap.size := by rw [← hX2, size_setRow, x1z]
      have x2w : X2.os = w.os ∧ X2.tape = w.tape ∧ X2.output = w.output := by rw [← hX2]; exact x1w
      have hC2 : Clo X2 (W.heap.size + 1) (W.heap.size + 1 + 1 + 1) W.heap.size (W.heap.size + 1 + 1) (.slice oD l.length cD) t0 t1 t2 t3 t4 t5 := ⟨⟨_, rfl, x2b⟩, ⟨_, rfl, x2s⟩, (World.cell?_of_block (w := w) (a := ⟨W.heap.size + 1 + 1 + 1, 0, none⟩) (x2o (W.heap.size + 1 + 1 + 1) (by omega) (by omega))).trans r3, ⟨q, f, (x2o _ (by omega) (by omega)).trans hg⟩, by omega, by omega, by omega, hone⟩
      rw [hX1] at hS
      rw [hX2] at hB
      have HZ := mkHid (And.intro hC2 (And.intro x2b (And.intro x2s (And.intro x2o (And.intro x2z x2w)))))
      have HE2 := mkHid HE
      clear HE PAN hC hC2 x2b x2s x2o x2z x2w x1b x1s x1o x1z x1w w0 w1 w3 hg hTo hb hX1 hX2 hR hvs
      dsimp only
      go_wp2_with fail
      refine leaves_cons (f := 71) (args := #[.pointer (some ⟨W.heap.size + 1, 0, none⟩), .pointer (some ⟨W.heap.size + 1 + 1 + 1, 0, none⟩), .pointer (some ⟨W.heap.size, 0, none⟩)]) (by simp) (by simp [go_sem]) ?_
      refine (catch_idle HZ.out.1).mono ?_
      rintro e u' w'' ⟨rfl, rfl, rfl⟩
      have hz := HZ.out.2.2.2
      exact HE2.out X2 _ _ rfl rfl (fun k _ h1 h2 => hz.1 k h1 h2) (fun k hk => hz.1 k (by have := vs.out; omega) (by have := vs.out; omega)) hz.2.2.1 hz.2.2.2.1 hz.2.2.2.2 hz.2.1 HZ.out.2.2.1 HZ.out.2.1 false 0 _ rfl rfl rfl
    · exact PAN false p _ rfl rfl rfl
end Go.Proofs.YtfimaflglnemdaaDoor
