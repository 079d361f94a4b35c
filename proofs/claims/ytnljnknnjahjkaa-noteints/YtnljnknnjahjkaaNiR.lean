/- NoteInts: deep's first list, done. -/
import Derived.Test.YtnljnknnjahjkaaNiQ
namespace Go.Proofs.Ytnljnknnjahjkaa
open Go.RowKit
/-- A list of twins with its mark, carried along. -/
def Lp (_B lo sz : Nat) (mk : Value) (T : Array Value → Array Value → (Nat → Prop) → World → Prop) (v2 : Value) (ls ln : List (Array Value)) (q : Int) (vf : Value) (X : World) : Prop :=
  0 ≤ q → ls.length = ln.length ∧ (∃ g cap, v2 = .slice (some ⟨g, 0, none⟩) (ls.length + 1) cap ∧ RdM (Bk lo X vf) X sz (.slice (some ⟨g, 0, none⟩) ls.length cap) ls mk) ∧ ∀ (i : Nat) a c, ls[i]? = some a → ln[i]? = some c → T a c (Bk lo X vf) X
theorem Lp.carr {B lo sz : Nat} {mk : Value} {T : Array Value → Array Value → (Nat → Prop) → World → Prop} (hC : Carr B T) {v2 : Value} {ls ln : List (Array Value)} {q q' : Int} {vf vf' : Value} {X X' : World} (h : Lp B lo sz mk T v2 ls ln q vf X) (hq : 0 ≤ q' → 0 ≤ q) (hB : ∀ j, j < B → X'.heap[j]? = X.heap[j]?) (hk : ∀ j, Bk lo X vf j → X'.heap[j]? = X.heap[j]?) (hs : ∀ j, Bk lo X vf j → Bk lo X' vf' j) : Lp B lo sz mk T v2 ls ln q' vf' X' := fun h0 => by
  obtain ⟨h1, ⟨g, cap, h2, h3⟩, h4⟩ := h (hq h0)
  exact ⟨h1, ⟨g, cap, h2, h3.keep hk hs⟩, fun i a c ha hc => hC _ _ _ _ _ _ hB hk hs (h4 i a c ha hc)⟩
/-- The mark laid behind. -/
theorem Lp.made {B k lo e sz ty : Nat} {T : Array Value → Array Value → (Nat → Prop) → World → Prop} (hC : Carr B T) {v v2 mk : Value} {ls ln : List (Array Value)} {q : Int} {X X3 : World} {m : Array Value} (h : Ls B k lo e sz T v ls ln q X) (hB : B ≤ lo) (hlo : lo ≤ X.heap.size) (hfin : 0 ≤ q → ls.length = ln.length) (hz : m.size = sz) (hm : m.toList[0]? = some mk)
    (ho : X3.ownsRow lo e sz v2 (ls.length + 1) (flat (ls ++ [m]))) (hg : (X.alloc (.cells m ty)).grownBy X3 v.ownBlock) : Lp B lo sz mk T v2 ls ln q (.slice none 0 0) X3 := fun h0 => by
  have hlt := h.own.lt
  have hsz : X.heap.size + 1 ≤ X3.heap.size := by have := hg.size; simpa using this
  have keep : ∀ j, j < X.heap.size → v.ownBlock ≠ some j → X3.heap[j]? = X.heap[j]? := fun j hj hn => (hg.block j (by simp; omega) (fun e => hn e.symm)).trans (heap_alloc_old _ _ (h := hj))
  have hall : ∀ c ∈ ls ++ [m], c.size = sz := fun c hc => by
    rcases List.mem_append.1 hc with h1 | h1
    · exact h.szs c h1
    · rw [List.mem_singleton.1 h1]; exact hz
  have hat : ∀ g, v2.ownBlock = some g → ∀ (i : Nat) c, (ls ++ [m])[i]? = some c → X3.rangeAt g (i * sz) c.toList := fun g hg2 i c hc => own_at ho hg2 hall i c hc
  refine ⟨hfin h0, ?_, fun i a c ha hc => ?_⟩
  · rcases ho.2 with ⟨_, h1⟩ | ⟨g, cap, cur, rfl, hBg, hgr, hnc, hcm, _⟩
    · omega
    · refine ⟨g, cap, rfl, g, cap, rfl, hnc, hcm, ⟨hBg, (Array.getElem?_eq_some_iff.1 hgr).1, by simp [Value.ownBlock]⟩, fun i c hc => ⟨h.szs c (List.mem_of_getElem? hc), hat g rfl i c (by rw [List.getElem?_append_left (List.getElem?_eq_some_iff.1 hc).1]; exact hc)⟩, ?_⟩
      have := hat g rfl ls.length m (by simp) 0 mk hm
      simpa using this
  · exact hC _ _ _ _ _ _ (fun j hj => keep j (by omega) (fun e => by have := (hlt j e).1; omega)) (fun j hj => keep j hj.2.1 hj.2.2) (fun j hj => ⟨hj.1, by have := hj.2.1; omega, by simp [Value.ownBlock]⟩) (h.tws h0 i a c ha hc)
/-- Behind a call. -/
theorem Lp.call {B lo sz cb : Nat} {mk : Value} {T : Array Value → Array Value → (Nat → Prop) → World → Prop} (hC : Carr B T) {v2 : Value} {ls ln : List (Array Value)} {q q' : Int} {vf : Value} {X X' : World} (h : Lp B lo sz mk T v2 ls ln q vf X) (hq : 0 ≤ q) (hcb : cb < lo) (hB : B ≤ cb) (hlo : lo ≤ X.heap.size) (ht : Tch cb X X') : Lp B lo sz mk T v2 ls ln q' vf X' :=
  h.carr hC (fun _ => hq) (fun j hj => ht.block j (by omega) (by omega)) (fun j hj => ht.block j hj.2.1 (by have := hj.1; omega)) (fun j hj => ⟨hj.1, Nat.lt_of_lt_of_le hj.2.1 ht.size, hj.2.2⟩)
/-- Behind one more of the other list. -/
theorem Lp.grown {B lo sz ty : Nat} {mk : Value} {T : Array Value → Array Value → (Nat → Prop) → World → Prop} (hC : Carr B T) {v2 : Value} {ls ln : List (Array Value)} {q : Int} {vf vf' : Value} {X X3 : World} {m : Array Value} (h : Lp B lo sz mk T v2 ls ln q vf X) (hB : B ≤ lo) (hlo : lo ≤ X.heap.size) (hvf : ∀ g, vf.ownBlock = some g → lo ≤ g) (hg : (X.alloc (.cells m ty)).grownBy X3 vf.ownBlock) (hat : vf'.ownBlock = vf.ownBlock ∨ vf'.ownBlock = some (X.heap.size + 1)) : Lp B lo sz mk T v2 ls ln q vf' X3 := by
  have hsz : X.heap.size + 1 ≤ X3.heap.size := by have := hg.size; simpa using this
  have keep : ∀ j, j < X.heap.size → vf.ownBlock ≠ some j → X3.heap[j]? = X.heap[j]? := fun j hj hn => (hg.block j (by simp; omega) (fun e => hn e.symm)).trans (heap_alloc_old _ _ (h := hj))
  refine h.carr hC (fun h => h) (fun j hj => keep j (by omega) (fun e => by have := hvf j e; omega)) (fun j hj => keep j hj.2.1 hj.2.2) (fun j hj => ⟨hj.1, by have := hj.2.1; omega, fun e => ?_⟩)
  rcases hat with h1 | h1
  · exact hj.2.2 (h1.symm.trans e)
  · rw [h1] at e
    have := Option.some.inj e
    have := hj.2.1
    omega
theorem Ds.grown {cb ty : Nat} {W X X3 : World} {c m : Array Value} {lf q : Int} {v : Value} (h : Ds cb W c lf q X) (hcb : cb < W.heap.size) (hv : ∀ g, v.ownBlock = some g → W.heap.size + 2 ≤ g) (hg : (X.alloc (.cells m ty)).grownBy X3 v.ownBlock) : Ds cb W c lf q X3 := by
  have hz : W.heap.size + 2 ≤ X.heap.size := (Array.getElem?_eq_some_iff.1 h.res).1
  have hz3 : X.heap.size + 1 ≤ X3.heap.size := by have := hg.size; simpa using this
  have kp : ∀ j, j < W.heap.size + 2 → X3.heap[j]? = X.heap[j]? := fun j hj => (hg.block j (by simp; omega) (fun e => by have := hv j e.symm; omega)).trans (heap_alloc_old _ _ (h := by omega))
  have t := h.tch
  exact ⟨(kp cb (by omega)).trans h.cbr, (kp _ (by omega)).trans h.box, (kp _ (by omega)).trans h.res, ⟨hg.os.trans t.os, hg.tape.trans t.tape, hg.output.trans t.output, by have := t.size; omega, fun j hj hn => (kp j (by omega)).trans (t.block j hj hn)⟩, h.q0, h.q1⟩
theorem Ds.call {cb : Nat} {W X X' : World} {c : Array Value} {lf q q' : Int} (h : Ds cb W c lf q X) (hcb : cb < W.heap.size) (ht : Tch cb X X') (hr : X'.heap[cb]? = some (.cells #[.int .i64 q'] 35 (0, 0))) (h1 : q' < q) (h2 : -1 ≤ q') : Ds cb W c lf q' X' := by
  have hz : W.heap.size + 2 ≤ X.heap.size := (Array.getElem?_eq_some_iff.1 h.res).1
  exact ⟨hr, (ht.block _ (by omega) (by omega)).trans h.box, (ht.block _ (by omega) (by omega)).trans h.res, h.tch.trans ht, h2, by have := h.q1; omega⟩
theorem Ds.drew {cb : Nat} {W X : World} {c : Array Value} {lf q : Int} (h : Ds cb W c lf q X) : Ds cb W c lf q X.drew := ⟨h.cbr, h.box, h.res, ⟨h.tch.os, h.tch.tape, h.tch.output, h.tch.size, h.tch.block⟩, h.q0, h.q1⟩
theorem Ls.drew {B k lo e sz : Nat} {T : Array Value → Array Value → (Nat → Prop) → World → Prop} (hC : Carr B T) {v : Value} {ls ln : List (Array Value)} {q : Int} {X : World} (h : Ls B k lo e sz T v ls ln q X) : Ls B k lo e sz T v ls ln q X.drew :=
  ⟨own_keep h.own fun _ _ => rfl, h.szs, h.le, fun h0 i a c ha hc => hC (Bk lo X v) (Bk lo X.drew v) X X.drew a c (fun _ _ => rfl) (fun _ _ => rfl) (fun _ hj => ⟨hj.1, hj.2.1, hj.2.2⟩) (h.tws h0 i a c ha hc)⟩
theorem Lp.drew {B lo sz : Nat} {mk : Value} {T : Array Value → Array Value → (Nat → Prop) → World → Prop} (hC : Carr B T) {v2 : Value} {ls ln : List (Array Value)} {q : Int} {vf : Value} {X : World} (h : Lp B lo sz mk T v2 ls ln q vf X) : Lp B lo sz mk T v2 ls ln q vf X.drew :=
  h.carr hC (fun h => h) (fun _ _ => rfl) (fun _ _ => rfl) (fun _ hj => ⟨hj.1, hj.2.1, hj.2.2⟩)
end Go.Proofs.Ytnljnknnjahjkaa
