/- The sieve's table: newTable. -/
import Derived.Test.YtceaklefdahfkabSv15
import Derived.Test.YtceaklefdahfkabSv16
namespace Go.Proofs.Ytceaklefdahfkab
open Go.RowKit
theorem St.lt {v : Value} {l : List ByteArray} {w : World} (h : St v l w) (k : Nat) (hk : v.ownBlock = some k) : k < w.heap.size := by
  rcases h with ⟨rfl, _⟩ | ⟨b, off, cap, rfl, _, _, h5, _⟩
  · cases hk
  · cases hk; exact h5
theorem Si.lt {q : IntKind} {v : Value} {l : List Nat} {w : World} (h : Si q v l w) (k : Nat) (hk : v.ownBlock = some k) : k < w.heap.size := by
  rcases h with ⟨rfl, _⟩ | ⟨b, off, cap, rfl, _, _, h5, _⟩
  · cases hk
  · cases hk; exact h5
theorem Lz.tabK {K g bb : Nat} {lv dv fv rv vv : Value} {t : Tbl} {w : World} (h : Lz K g bb lv dv fv rv vv t w) (hK : K ≤ w.heap.size) : TabK w.heap.size g t w := by
  have bz : bb < w.heap.size := (Array.getElem?_eq_some_iff.1 h.bk).1
  have hg := h.gk
  refine ⟨by omega, lv, dv, fv, _, rv, vv, h.row, ⟨h.l.1, h.d.1, h.f.1, .inr ⟨bb, 0, _, rfl, Nat.le_refl _, h.bm, bz, fun j hj => by rw [Nat.zero_add]; exact (cell_of_row w bb j _ _ _ h.bk).trans (ik_get _ _ j hj)⟩, rows_sr h.rw rfl h.rl, h.v.1⟩, ?_⟩
  intro v hv k hk
  rcases hv with rfl | rfl | rfl | rfl | rfl | rfl
  · exact h.l.1.lt k hk
  · exact h.d.1.lt k hk
  · exact h.f.1.lt k hk
  · cases hk; exact bz
  · exact (h.rw.lt k hk).2
  · exact h.v.1.lt k hk
set_option maxRecDepth 100000 in
theorem newTable_any (l : List ByteArray) (hl : l.length ≤ 4096) (m : Nat) (hm : m ≤ 64) (hs : ∀ s ∈ l, s.size = m) (vals : List Nat) (hvl : vals.length ≤ 4096) (v vv : Value) (w : World) (hv : St v l w) (hvv : Si .i64 vv vals w) :
    Calls Try.prog 47 #[.int .i64 (m : Int), v, vv] w fun e w' => e = .returned (.pointer (some ⟨w.heap.size, 0, none⟩)) ∧ TabK w'.heap.size w.heap.size (ftT (l.map tl) vals m) w' ∧ Below w.heap.size w w' := by
  obtain ⟨W, hW⟩ : ∃ W, W = w.alloc (.cells #[.int .i64 (m : Int), .slice none 0 0, .slice none 0 0, .slice none 0 0, .slice none 0 0, .slice none 0 0, vv] 100) := ⟨_, rfl⟩
  have B0 : Below w.heap.size w W := by rw [hW]; exact (Below.refl _ w).alloc (Nat.le_refl _) _
  have R0 : W.heap[w.heap.size]? = some (.cells #[.int .i64 (m : Int), .slice none 0 0, .slice none 0 0, .slice none 0 0, .slice none 0 0, .slice none 0 0, vv] 100 (0, 0)) := by rw [hW]; exact heap_alloc_new _ _
  obtain ⟨g, hg⟩ : ∃ g, g = w.heap.size := ⟨_, rfl⟩
  have CS : Hid (Calls Try.prog 74 #[.pointer (some ⟨g, 0, none⟩), v] W fun e w' => e = .returned (.tuple #[]) ∧ (∃ sb sr, Lq g sb sr (.int .i64 (m : Int)) (.slice none 0 0) (.slice none 0 0) vv ((lS (l.map tl) (shr (l.map tl)) m).1, (lS (l.map tl) (shr (l.map tl)) m).2.1, (lS (l.map tl) (shr (l.map tl)) m).2.2 ++ [(lS (l.map tl) (shr (l.map tl)) m).1.length]) w') ∧ Below g W w') := by
    rw [hg]
    exact layStates_any w.heap.size l hl m hm hs v vv W (hv.below B0) (fun k hk => hv.lt k hk) R0
  have CB : Hid (∀ W1, (∃ sb sr, Lq g sb sr (.int .i64 (m : Int)) (.slice none 0 0) (.slice none 0 0) vv ((lS (l.map tl) (shr (l.map tl)) m).1, (lS (l.map tl) (shr (l.map tl)) m).2.1, (lS (l.map tl) (shr (l.map tl)) m).2.2 ++ [(lS (l.map tl) (shr (l.map tl)) m).1.length]) W1) → Below g W W1 → Calls Try.prog 75 #[.pointer (some ⟨g, 0, none⟩)] W1 fun e w' => e = .returned (.tuple #[]) ∧ TabK w'.heap.size g (ftT (l.map tl) vals m) w' ∧ Below g w w') := by
    intro W1 hq hb
    obtain ⟨sb, sr, a, b, f, hy⟩ := hq
    have z1 := hy.gz
    have vs1 : Sk W1.heap.size g .i64 vv vals W1 := by
      have hb1 : Below g w W1 := by rw [hg] at hb ⊢; exact B0.trans hb
      exact ⟨hvv.keep hb1.size fun j hj hz => hb1.block j (by omega), fun j hj => by have := hvv.lt j hj; omega⟩
    refine Calls.mono (layBacks_any g (mkT (l.map tl) vals m) (mkT_bk _ _ _) (mkT_bd _ _ _ (by simpa using hl) hvl hm) (mkT_byt _ _ _ (fun u hu => by obtain ⟨s, _, rfl⟩ := List.mem_map.1 hu; exact tl_byt s) hm).1 rfl rfl (mkT_firsts _ _ _) (mkT_letters _ _ _) a b f vv W1 hy.row (own_sk hy.oa rfl (by omega)) (own_sk hy.ob rfl (by omega)) (own_sk hy.of rfl (by omega)) vs1) ?_
    rintro e w' ⟨h1, ⟨bb, rv, hz⟩, h3⟩
    have : W1.heap.size ≤ w'.heap.size := h3.size
    exact ⟨h1, hz.tabK this, by rw [hg] at hb h3 ⊢; exact (B0.trans hb).trans h3⟩
  have HB : Hid _ := CB
  clear CB
  rw [hg] at CS HB
  rw [hW] at CS HB
  obtain ⟨o, c, hvo, _⟩ := hvv.form
  subst hvo
  clear hv hvv hs B0 R0 hW hg
  go_enter Try.func47, Try.ntmps47
  go_wp2_with fail
  refine Calls.mono CS.out ?_
  rintro e W1 ⟨rfl, h1, h2⟩
  have CC : Hid _ := HB.out W1 h1 h2
  clear h1 h2 CS HB
  go_wp2_with fail
  refine Calls.mono CC.out ?_
  rintro e W2 ⟨rfl, h1, h2⟩
  have HH : Hid _ := And.intro h1 h2
  clear h1 h2 CC
  go_wp2
  go_ret
  exact ⟨rfl, HH.out⟩
end Go.Proofs.Ytceaklefdahfkab
