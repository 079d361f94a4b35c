/- The sieve's table: as it lies while the backs are laid. -/
import Derived.Test.YtceaklefdahfkabSv12
namespace Go.Proofs.Ytceaklefdahfkab
open Go.RowKit
theorem rwc_get : ∀ (R : List (List Nat)), (∀ j, j < R.length → (R.getD j []).length = 256) → ∀ j c, j < R.length → c < 256 → (rwc R)[j * 256 + c]? = some (.int .i32 (((R.getD j []).getD c 0 : Nat) : Int))
  | [], _, j, _, hj, _ => by simp at hj
  | r :: R, h, j, c, hj, hc => by
    have h0 : r.length = 256 := h 0 (by simp)
    have hl : (ik .i32 r).toList.length = 256 := by simp [ik, h0]
    have e : rwc (r :: R) = (ik .i32 r).toList ++ rwc R := by simp [rwc]
    rw [e]
    cases j with
    | zero =>
      rw [Nat.zero_mul, Nat.zero_add, List.getElem?_append_left (by omega), Array.getElem?_toList]
      exact ik_get .i32 r c (by omega)
    | succ j =>
      have e2 : (j + 1) * 256 + c - (ik .i32 r).toList.length = j * 256 + c := by rw [hl]; omega
      rw [List.getElem?_append_right (by rw [hl]; omega), e2]
      have := rwc_get R (fun i hi => by have := h (i + 1) (by simpa using hi); simpa using this) j c (by simpa using hj) hc
      simpa using this
theorem rows_sr {K n : Nat} {v : Value} {R : List (List Nat)} {w : World} (h : w.ownsRow K 121 256 v n (rwc R)) (hn : n = R.length) (hl : ∀ j, j < R.length → (R.getD j []).length = 256) : Sr v R w := by
  subst hn
  obtain ⟨_, ⟨h1, h2⟩ | ⟨g, cap, cur, h1, h2, h3, h4, h5, h6, h7⟩⟩ := h
  · exact .inl ⟨h1, List.length_eq_zero_iff.1 h2⟩
  · refine .inr ⟨g, 0, cap, h1, h4, h5, (Array.getElem?_eq_some_iff.1 h3).1, fun j c hj hc => ?_⟩
    have hlt : j * 256 + c < R.length * 256 := by omega
    have := rwc_get R hl j c hj hc
    rw [← h7, List.getElem?_take_of_lt hlt, Array.getElem?_toList] at this
    rw [Nat.zero_add]
    exact (cell_of_row w g _ _ _ _ h3).trans this
/-- A slice that lies below K, and not in block g. -/
def Sk (K g : Nat) (k : IntKind) (v : Value) (l : List Nat) (w : World) : Prop := Si k v l w ∧ ∀ b, v.ownBlock = some b → b < K ∧ b ≠ g
theorem Sk.keep {K g : Nat} {k : IntKind} {v : Value} {l : List Nat} {w w' : World} (h : Sk K g k v l w) (hs : w.heap.size ≤ w'.heap.size) (hb : ∀ j, j < K → j ≠ g → j < w.heap.size → w'.heap[j]? = w.heap[j]?) : Sk K g k v l w' :=
  ⟨h.1.keep hs fun j hj hz => hb j (h.2 j hj).1 (h.2 j hj).2 hz, h.2⟩
/-- The table while the backs are laid. -/
structure Lz (K g bb : Nat) (lv dv fv rv vv : Value) (t : Tbl) (w : World) : Prop where
  row : w.heap[g]? = some (.cells #[.int .i64 (t.width : Int), lv, dv, fv, .slice (some ⟨bb, 0, none⟩) t.backs.length t.backs.length, rv, vv] 100 (0, 0))
  gk : g < K
  kb : K ≤ bb
  l : Sk K g .u8 lv t.letters w
  d : Sk K g .u8 dv t.depths w
  f : Sk K g .i32 fv t.firsts w
  v : Sk K g .i64 vv t.values w
  bk : w.heap[bb]? = some (.cells (ik .i32 t.backs) 21 (0, 0))
  bm : t.backs.length ≤ maxLen
  rw : w.ownsRow K 121 256 rv t.rows.length (rwc t.rows)
  rb : ¬ rv.ownBlock = some bb
  rl : ∀ j, j < t.rows.length → (t.rows.getD j []).length = 256
theorem Lz.tab {K g bb : Nat} {lv dv fv rv vv : Value} {t : Tbl} {w : World} (h : Lz K g bb lv dv fv rv vv t w) : Tab g t w :=
  ⟨lv, dv, fv, _, rv, vv, h.row, h.l.1, h.d.1, h.f.1, .inr ⟨bb, 0, _, rfl, Nat.le_refl _, h.bm, (Array.getElem?_eq_some_iff.1 h.bk).1, fun j hj => by rw [Nat.zero_add]; exact (cell_of_row w bb j _ _ _ h.bk).trans (ik_get _ _ j hj)⟩, rows_sr h.rw rfl h.rl, h.v.1⟩
theorem Lz.keep {K g bb : Nat} {lv dv fv rv vv : Value} {t : Tbl} {w w' : World} (h : Lz K g bb lv dv fv rv vv t w) (hb : Below w.heap.size w w') : Lz K g bb lv dv fv rv vv t w' :=
  ⟨(hb.block g (Array.getElem?_eq_some_iff.1 h.row).1).trans h.row, h.gk, h.kb, h.l.keep hb.size fun j _ _ hz => hb.block j hz, h.d.keep hb.size fun j _ _ hz => hb.block j hz, h.f.keep hb.size fun j _ _ hz => hb.block j hz, h.v.keep hb.size fun j _ _ hz => hb.block j hz, (hb.block bb (Array.getElem?_eq_some_iff.1 h.bk).1).trans h.bk, h.bm, own_keep2 h.rw fun k hk => hb.block k (h.rw.lt k hk).2, h.rb, h.rl⟩
/-- A back is stored. -/
theorem Lz.setB {K g bb : Nat} {lv dv fv rv vv : Value} {t : Tbl} {w : World} (h : Lz K g bb lv dv fv rv vv t w) (f x : Nat) : Lz K g bb lv dv fv rv vv { t with backs := t.backs.set f x } (w.setCell ⟨bb, f, none⟩ (.int .i32 (x : Int))) := by
  have hk := h.kb
  have hg := h.gk
  have o : ∀ j, j ≠ bb → (w.setCell ⟨bb, f, none⟩ (.int .i32 (x : Int))).heap[j]? = w.heap[j]? := fun j hj => heap_setCell_other _ _ _ _ hj
  have z : w.heap.size ≤ (w.setCell ⟨bb, f, none⟩ (.int .i32 (x : Int))).heap.size := by simp [World.setCell]
  refine ⟨?_, hg, hk, h.l.keep z fun j hj _ _ => o j (by omega), h.d.keep z fun j hj _ _ => o j (by omega), h.f.keep z fun j hj _ _ => o j (by omega), h.v.keep z fun j hj _ _ => o j (by omega), ?_, ?_, own_keep2 h.rw fun k e => o k (fun e2 => h.rb (by rw [e, e2])), h.rb, h.rl⟩
  · rw [o g (by omega)]
    show w.heap[g]? = some (.cells #[_, _, _, _, .slice _ (t.backs.set f x).length (t.backs.set f x).length, _, _] 100 (0, 0))
    rw [List.length_set]; exact h.row
  · show _ = some (Obj.cells (ik .i32 (t.backs.set f x)) 21 (0, 0))
    rw [← ik_set]; exact heap_setCell_same _ _ _ _ _ _ h.bk
  · show (t.backs.set f x).length ≤ maxLen
    rw [List.length_set]; exact h.bm
/-- What is left where a row is gone on with. -/
theorem grown_oldR {w w' : World} {cs : Array Value} {e : Nat} {v : Value} (hg : (w.alloc (.cells cs e)).grownBy w' v.ownBlock) (k : Nat) (hk : k < w.heap.size) (hn : ¬ v.ownBlock = some k) : w'.heap[k]? = w.heap[k]? := by
  rw [hg.block k (by simp; omega) (fun e => hn e.symm), heap_alloc_old _ _ (h := hk)]
/-- A row is appended. -/
theorem Lz.addR {K g bb : Nat} {lv dv fv rv vv : Value} {t : Tbl} {w : World} (h : Lz K g bb lv dv fv rv vv t w) (r : List Nat) (hr : r.length = 256) (hb : t.rows.length ≤ 1048576) :
    ∃ v' w', (apR 98 #[rv, .slice (some ⟨w.heap.size, 0, none⟩) 1 1]).run Try.prog (w.alloc (.cells (ik .i32 r) 121)) = .ok v' w' ∧ w'.cell? ⟨g, 5, none⟩ = some rv ∧ w'.frozen? ⟨g, 5, none⟩ = false ∧ Lz K g bb lv dv fv v' vv { t with rows := t.rows ++ [r] } (w'.setCell ⟨g, 5, none⟩ v') ∧ ∀ B, B ≤ g → Below B w (w'.setCell ⟨g, 5, none⟩ v') := by
  have hk := h.kb
  have hgk := h.gk
  have bz : bb < w.heap.size := (Array.getElem?_eq_some_iff.1 h.bk).1
  obtain ⟨v', w', hrun, ho, hg, hat⟩ := run_apR w K t.rows.length 98 rv t.rows r hr h.rw hb (by omega)
  have old : ∀ j, j < w.heap.size → ¬ rv.ownBlock = some j → w'.heap[j]? = w.heap[j]? := fun j hj hn => grown_oldR hg j hj hn
  have nk : ∀ j, j < K → ¬ rv.ownBlock = some j := fun j hj e => by have := (h.rw.lt j e).1; omega
  have rg : w'.heap[g]? = _ := (old g (by omega) (nk g hgk)).trans h.row
  have z : w.heap.size ≤ w'.heap.size := by have := hg.size; simp at this; omega
  have o : ∀ j, j ≠ g → (w'.setCell ⟨g, 5, none⟩ v').heap[j]? = w'.heap[j]? := fun j hj => heap_setCell_other _ _ _ _ hj
  have z' : w.heap.size ≤ (w'.setCell ⟨g, 5, none⟩ v').heap.size := by simpa [World.setCell] using z
  have kp : ∀ j, j < K → j ≠ g → j < w.heap.size → (w'.setCell ⟨g, 5, none⟩ v').heap[j]? = w.heap[j]? := fun j hj hn hz => (o j hn).trans (old j hz (nk j hj))
  refine ⟨v', w', hrun, (cell_of_row w' g 5 _ _ _ rg).trans rfl, frozen_of_row w' _ _ _ _ rg, ⟨(heap_setCell_same _ _ _ _ _ _ rg).trans rfl, hgk, hk, h.l.keep z' kp, h.d.keep z' kp, h.f.keep z' kp, h.v.keep z' kp, (o bb (by omega)).trans ((old bb bz h.rb).trans h.bk), h.bm, ?_, ?_, ?_⟩, fun B hB => ⟨hg.os, hg.tape, hg.output, z', fun j hj => kp j (by omega) (by omega) (by omega)⟩⟩
  · show World.ownsRow _ _ _ _ _ (t.rows ++ [r]).length (rwc (t.rows ++ [r]))
    rw [List.length_append, List.length_singleton]
    exact own_keep2 ho fun k hk2 => o k (by have := (ho.lt k hk2).1; omega)
  · intro e
    rcases hat with h1 | h1
    · exact h.rb (h1.symm.trans e)
    · rw [h1] at e; have := Option.some.inj e; omega
  · intro j hj
    have hj' : j < t.rows.length + 1 := by simpa using hj
    show ((t.rows ++ [r]).getD j []).length = 256
    by_cases h2 : j < t.rows.length
    · have : (t.rows ++ [r]).getD j [] = t.rows.getD j [] := by simp [List.getD, List.getElem?_append_left h2]
      rw [this]; exact h.rl j h2
    · have : j = t.rows.length := by omega
      subst this
      simp [List.getD, hr]
end Go.Proofs.Ytceaklefdahfkab
