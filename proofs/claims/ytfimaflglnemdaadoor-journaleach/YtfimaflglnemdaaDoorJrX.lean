/- JournalReplays: a file, whatever it panics with. -/
import Derived.Test.YtfimaflglnemdaaDoorJrW
import Derived.Defers
import Derived.Recover
namespace Go.Proofs.YtfimaflglnemdaaDoor
open Go.RowKit
open JM
theorem Told.keep {B fl : Nat} {w w' : World} {s : St} {t0 t1 t2 t3 t4 t5 : Value} (h : Told B fl w s t0 t1 t2 t3 t4 t5) (hk : Stay B (fun t => t = 5 ∨ t = 23 ∨ t = 27) w w') : Told B fl w' s t0 t1 t2 t3 t4 t5 := by
  unfold Told at *
  split
  · rename_i hl
    rw [if_pos hl] at h
    exact ⟨h.1, h.2.1, h.2.2.1, h.2.2.2.1, h.2.2.2.2.1.keep (fun k c t hB ht hc => hk k c t hB (ht.elim .inl (fun h => .inr (.inl h))) hc), h.2.2.2.2.2.keep hk⟩
  · rename_i hl
    rw [if_neg hl] at h
    exact h
theorem Told.mono {B B' fl : Nat} {w : World} {s : St} {t0 t1 t2 t3 t4 t5 : Value} (h : Told B fl w s t0 t1 t2 t3 t4 t5) (hb : B' ≤ B) : Told B' fl w s t0 t1 t2 t3 t4 t5 := by
  unfold Told at *
  split
  · rename_i hl
    rw [if_pos hl] at h
    exact ⟨h.1, h.2.1, h.2.2.1, h.2.2.2.1, h.2.2.2.2.1.mono hb, h.2.2.2.2.2.mono hb⟩
  · rename_i hl
    rw [if_neg hl] at h
    exact h
theorem sizeBr : (Tryd.prog.info? 112).map (·.size) = some 2 := by kernel_rfl
def stBr (p v : Value) : Sem Unit := Instr.storeAt 112 p v
theorem toStBr (p v : Value) : Instr.storeAt 112 p v = stBr p v := rfl
theorem st_Br (w : World) (g : Nat) (C D : Array Value) (hC : C.size = 2) (hD : D.size = 2) (h1 : D.all (·.oneCell') = true) (hg : w.heap[g]? = some (.cells C 112 (0, 0))) : (stBr (.pointer (some ⟨g, 0, none⟩)) (.agg D)).run Tryd.prog w = .ok () (w.setRow g D) := by
  unfold stBr
  simp only [Instr.storeAt, Instr.sureAddr, Sem.run_bind, Sem.run_pure, Result.andThen_ok, run_storeVar_row w g 112 112 C D hg (by rw [sizeBr, hD]) (by rw [hD, hC]) h1]
theorem st_StR (w : World) (g : Nat) (C D : Array Value) (hC : C.size = 6) (hD : D.size = 6) (h1 : D.all (·.oneCell') = true) (hg : w.heap[g]? = some (.cells C 47 (0, 0))) : (stSt (.pointer (some ⟨g, 0, none⟩)) (.agg D)).run Tryd.prog w = .ok () (w.setRow g D) := by
  unfold stSt
  simp only [Instr.storeAt, Instr.sureAddr, Sem.run_bind, Sem.run_pure, Result.andThen_ok, run_storeVar_row w g 47 47 C D hg (by rw [sizeSt, hD]) (by rw [hD, hC]) h1]
/-- What the deferred function finds. -/
structure Clo (w : World) (bb rp sb g : Nat) (dv t0 t1 t2 t3 t4 t5 : Value) : Prop where
  b : ∃ C : Array Value, C.size = 2 ∧ w.heap[bb]? = some (.cells C 112 (0, 0))
  s : ∃ C : Array Value, C.size = 6 ∧ w.heap[sb]? = some (.cells C 47 (0, 0))
  r : w.cell? ⟨rp, 0, none⟩ = some (.pointer (some ⟨g, 0, none⟩))
  gg : ∃ q f : Nat, w.heap[g]? = some (.cells (rdA dv q f t0 t1 t2 t3 t4 t5) 130 (0, 0))
  n1 : bb ≠ sb
  n2 : rp ≠ bb
  n3 : g ≠ bb
  o : (#[t0, t1, t2, t3, t4, t5] : Array Value).all (·.oneCell') = true
theorem told_range {w : World} {g : Nat} {dv t0 t1 t2 t3 t4 t5 : Value} {a f : Nat} (h : w.heap[g]? = some (.cells (rdA dv a f t0 t1 t2 t3 t4 t5) 130 (0, 0))) : w.rangeAt g 3 (#[t0, t1, t2, t3, t4, t5] : Array Value).toList := by
  have := World.rangeAt_of_block h 3 6
  simpa [rdA] using this
theorem clo_facts {w : World} {bb rp sb g : Nat} {dv t0 t1 t2 t3 t4 t5 : Value} (h : Clo w bb rp sb g dv t0 t1 t2 t3 t4 t5) (D : Array Value) (hD : D.size = 2) (h1 : D.all (·.oneCell') = true) :
    (stBr (.pointer (some ⟨bb, 0, none⟩)) (.agg D)).run Tryd.prog w = .ok () (w.setRow bb D) ∧ (w.setRow bb D).cell? ⟨rp, 0, none⟩ = some (.pointer (some ⟨g, 0, none⟩)) ∧
    (ldSt (.pointer (some ⟨g, 3, none⟩))).run Tryd.prog (w.setRow bb D) = .ok (.agg #[t0, t1, t2, t3, t4, t5]) (w.setRow bb D) ∧ (stSt (.pointer (some ⟨sb, 0, none⟩)) (.agg #[t0, t1, t2, t3, t4, t5])).run Tryd.prog (w.setRow bb D) = .ok () ((w.setRow bb D).setRow sb #[t0, t1, t2, t3, t4, t5]) := by
  obtain ⟨C, hC, hb⟩ := h.b
  obtain ⟨C2, hC2, hs⟩ := h.s
  obtain ⟨q, f, hg⟩ := h.gg
  refine ⟨st_Br w bb C D hC hD h1 hb, ?_, ?_, ?_⟩
  · exact (World.cell?_of_block (w := w) (a := ⟨rp, 0, none⟩) (setRow_other w bb rp D h.n2)).trans h.r
  · exact ld_St _ g 3 _ rfl (told_range ((setRow_other w bb g D h.n3).trans hg))
  · exact st_StR _ sb C2 _ hC2 rfl h.o ((setRow_other w bb sb D (Ne.symm h.n1)).trans hs)
theorem asY (W : World) (v : Value) : (Instr.typeAssert (.iface 112 v) 20 112 true).run Tryd.prog W = .ok (.tuple #[v, .bool true]) W := by kernel_rfl
theorem asN (W : World) : (Instr.typeAssert .nilIface 20 112 true).run Tryd.prog W = .ok (.tuple #[.agg #[.bool false, .int .i64 0], .bool false]) W := by kernel_rfl
def asT (x : Value) (a b : Nat) (c : Bool) : Sem Value := Instr.typeAssert x a b c
theorem toAsT (x : Value) (a b : Nat) (c : Bool) : Instr.typeAssert x a b c = asT x a b c := rfl
attribute [local go_sem ↓] toLdSt toStSt toStBr toAsT in
set_option maxRecDepth 100000 in
set_option maxHeartbeats 1000000 in
theorem catch_panicking {w : World} {bb rp sb g : Nat} {dv t0 t1 t2 t3 t4 t5 : Value} (h : Clo w bb rp sb g dv t0 t1 t2 t3 t4 t5) (sp : Bool) (n : Nat) (older : List PanicEntry) :
    CallsD Tryd.prog 71 #[.pointer (some ⟨bb, 0, none⟩), .pointer (some ⟨rp, 0, none⟩), .pointer (some ⟨sb, 0, none⟩)] (.panicking ({ v := brV sp n, recovered := false } :: older)) w fun e u' w' =>
      e = .returned (.tuple #[]) ∧ u' = .panicking ({ v := brV sp n, recovered := true } :: older) ∧ w' = (w.setRow bb #[.bool sp, .int .i64 (n : Int)]).setRow sb #[t0, t1, t2, t3, t4, t5] := by
  obtain ⟨e1, e2, e3, e4⟩ := clo_facts h #[.bool sp, .int .i64 (n : Int)] rfl (by simp [Value.oneCell'])
  have hA : (asT (brV sp n) 20 112 true).run Tryd.prog w = .ok (.tuple #[.agg #[.bool sp, .int .i64 (n : Int)], .bool true]) w := asY w _
  refine callsD_of_wpS Tryd.func71 rfl fun c₀ cs hu => ?_
  show Code.wpS Tryd.prog _ _ ⟨#[.pointer (some ⟨bb, 0, none⟩), .pointer (some ⟨rp, 0, none⟩), .pointer (some ⟨sb, 0, none⟩), undef, undef, undef, undef, undef, undef, undef, undef, undef], []⟩ _ _
  generalize brV sp n = bv at *
  apply wpS_seq
  apply wpS_region
  simp [wpOpsS, go_sem, recoverD, hu, Exit.thenS, hA, e1]
  apply wpS_region
  simp [wpOpsS, go_sem, e2, e3, e4, bodyPostS, results, Tryd.results71]
attribute [local go_sem ↓] toLdSt toStSt toStBr toAsT in
set_option maxRecDepth 100000 in
set_option maxHeartbeats 1000000 in
theorem catch_idle {w : World} {bb rp sb g : Nat} {dv t0 t1 t2 t3 t4 t5 : Value} (h : Clo w bb rp sb g dv t0 t1 t2 t3 t4 t5) :
    CallsD Tryd.prog 71 #[.pointer (some ⟨bb, 0, none⟩), .pointer (some ⟨rp, 0, none⟩), .pointer (some ⟨sb, 0, none⟩)] .returning w fun e u' w' =>
      e = .returned (.tuple #[]) ∧ u' = .returning ∧ w' = (w.setRow bb #[.bool false, .int .i64 0]).setRow sb #[t0, t1, t2, t3, t4, t5] := by
  obtain ⟨e1, e2, e3, e4⟩ := clo_facts h #[.bool false, .int .i64 0] rfl (by simp [Value.oneCell'])
  have hA : (asT .nilIface 20 112 true).run Tryd.prog w = .ok (.tuple #[.agg #[.bool false, .int .i64 0], .bool false]) w := asN w
  refine callsD_of_wpS Tryd.func71 rfl fun c₀ cs hu => ?_
  show Code.wpS Tryd.prog _ _ ⟨#[.pointer (some ⟨bb, 0, none⟩), .pointer (some ⟨rp, 0, none⟩), .pointer (some ⟨sb, 0, none⟩), undef, undef, undef, undef, undef, undef, undef, undef, undef], []⟩ _ _
  apply wpS_seq
  apply wpS_region
  simp [wpOpsS, go_sem, recoverD, hu, Exit.thenS, hA, e1]
  apply wpS_region
  simp [wpOpsS, go_sem, e2, e3, e4, bodyPostS, results, Tryd.results71]
  cases c₀
  simp_all
end Go.Proofs.YtfimaflglnemdaaDoor
