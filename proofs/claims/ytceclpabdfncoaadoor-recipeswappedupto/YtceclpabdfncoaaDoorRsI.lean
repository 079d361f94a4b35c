/- first: the first place at which a change stands. -/
import Derived.Test.YtceclpabdfncoaaDoorRsG
namespace Go.Proofs.YtceclpabdfncoaaDoor.Re
open Go.RowKit
/-- What first leaves. -/
def FiP (W : World) (C : List Pai) (t : Bts) (e : Ending) (w' : World) : Prop := ∃ (k : Nat) (x : Pai) (b : Bool), e = .returned (.tuple #[.int .i64 (k : Int), .agg (eR x), .bool b]) ∧ (b = true → k ≤ t.length ∧ (∀ j, j < k → hit C (t.drop j) = none) ∧ hit C (t.drop k) = some x) ∧ (b = false → ∀ j, hit C (t.drop j) = none) ∧ Below W.heap.size W w'
theorem results_C3 {fn : Func} {q p u : Tmp} (h : fn.results = #[.tmp q, .cell p 66, .tmp u]) (tmps : Array Value) (w : World) (g : Nat) (C : Array Value) (hC : C.size = 2)
    (hp : tmps.getD p undef = .pointer (some ⟨g, 0, none⟩)) (hg : w.heap[g]? = some (.cells C 66 (0, 0))) :
    (results fn tmps).run Tryd.prog w = .ok (.tuple #[tmps.getD q undef, .agg C, tmps.getD u undef]) w := by
  have hp' : tmps[p]?.getD undef = .pointer (some ⟨g, 0, none⟩) := by simpa using hp
  simp [results, h, hp', asAddr, run_loadVar_row w g 66 66 C (0, 0) _ hg Tryd.underlying66 rfl (by rw [sizeC, hC])]
/-- A fresh change is written over where it was just laid. -/
theorem st_Cnew (w : World) (a b : S) : (stC (.pointer (some ⟨w.heap.size, 0, none⟩)) (.agg #[.string a, .string b])).run Tryd.prog (w.alloc (.cells #[.string ⟨#[]⟩, .string ⟨#[]⟩] 66)) = .ok () (w.alloc (.cells #[.string a, .string b] 66)) := by
  have := st_C (w.alloc (.cells #[.string ⟨#[]⟩, .string ⟨#[]⟩] 66)) w.heap.size 0 (a, b) (fun j hj => by
    refine ⟨?_, frozen_of_row _ _ _ _ _ (heap_alloc_new _ _)⟩
    rw [cell_of_row _ _ _ _ _ _ (heap_alloc_new _ _)]
    have : j = 0 ∨ j = 1 := by omega
    rcases this with rfl | rfl <;> rfl)
  rw [this, World.setCell_alloc_new, World.setCell_alloc_new]
  rfl
/-- The search for a place is under way. -/
structure Fi (W : World) (lv : Value) (least : Nat) (wr : World) : Prop where
  bel : Below W.heap.size W wr
  box : wr.heap[W.heap.size]? = some (.cells #[lv, .int .i64 (least : Int)] 53 (0, 0))
  ans : wr.heap[W.heap.size + 1]? = some (.cells #[.string ⟨#[]⟩, .string ⟨#[]⟩] 66 (0, 0))
theorem Fi.below {W : World} {lv : Value} {least : Nat} {wr w' : World} (h : Fi W lv least wr) (hb : Below wr.heap.size wr w') : Fi W lv least w' := ⟨h.bel.trans (hb.mono h.bel.size), (hb.block _ (Array.getElem?_eq_some_iff.1 h.box).1).trans h.box, (hb.block _ (Array.getElem?_eq_some_iff.1 h.ans).1).trans h.ans⟩
theorem Fi.sz {W : World} {lv : Value} {least : Nat} {wr : World} (h : Fi W lv least wr) : W.heap.size + 1 < wr.heap.size := (Array.getElem?_eq_some_iff.1 h.ans).1
/-- A change that was found lies at a place: the answer can be given. -/
structure Fou (W : World) (lv : Value) (least : Nat) (g : Nat) (x : Pai) (V : World) : Prop where
  fi : Fi W lv least V
  ld : (ldC (.pointer (some ⟨g, 0, none⟩))).run Tryd.prog V.drew = .ok (.agg #[.string x.1, .string x.2]) V.drew
  st : ∃ Z, (stC (.pointer (some ⟨W.heap.size + 1, 0, none⟩)) (.agg #[.string x.1, .string x.2])).run Tryd.prog V.drew = .ok () Z ∧ Hid (Z.heap[W.heap.size + 1]? = some (.cells (eR x) 66 (0, 0)) ∧ Below W.heap.size W Z)
theorem fou_of {W : World} {lv : Value} {least : Nat} {g : Nat} {x : Pai} {V : World} (h : Fi W lv least V) (hg : V.heap[g]? = some (.cells #[.string x.1, .string x.2] 66 (0, 0))) : Fou W lv least g x V := by
  refine ⟨h, ?_, ?_⟩
  · exact ld_C V.drew g 0 x (by have := World.rangeAt_of_block hg 0 2; exact this)
  · obtain ⟨Z, h1, h2, h3, -⟩ := st_Crow V.drew (W.heap.size + 1) _ rfl x h.ans
    exact ⟨Z, h1, h2, (h.bel.trans ⟨rfl, rfl, rfl, Nat.le_refl _, fun _ _ => rfl⟩ : Below W.heap.size W V.drew).trans (h3 _ (by omega))⟩
theorem fou_new {W : World} {lv : Value} {least : Nat} {Y : World} (h : Fi W lv least Y) (x1 x2 : S) : Fou W lv least Y.heap.size (x1, x2) (Y.alloc (.cells #[.string x1, .string x2] 66)) := fou_of (h.below ((Below.refl _ Y).alloc (Nat.le_refl _) _)) (heap_alloc_new _ _)
theorem fou_old {W : World} {lv : Value} {least : Nat} {Y : World} {g : Nat} (h : Fi W lv least Y) (hg : Y.heap[g]? = some (.cells #[.string ⟨#[]⟩, .string ⟨#[]⟩] 66 (0, 0))) (hn : W.heap.size + 1 < g) (x1 x2 : S) : ∃ Z, (stC (.pointer (some ⟨g, 0, none⟩)) (.agg #[.string x1, .string x2])).run Tryd.prog Y = .ok () Z ∧ Fou W lv least g (x1, x2) Z := by
  obtain ⟨Z, h1, h2, h3, h4⟩ := st_Crow Y g _ rfl (x1, x2) hg
  exact ⟨Z, h1, fou_of ⟨h.bel.trans (h3 _ (by omega)), (h4 _ (by omega)).trans h.box, (h4 _ (by omega)).trans h.ans⟩ h2⟩
section
attribute [local go_sem ↓] toStC toBdC toLdC toLdH
set_option maxRecDepth 100000 in
set_option maxHeartbeats 3200000 in
theorem first_any (W : World) (lv : Value) (C : List Pai) (least : Nat) (h : Chs W lv C least) (hp : PF C) (hne : NE C) (t : S) (ht : t.size ≤ 4000000000) : Calls Tryd.prog 24 #[.agg #[lv, .int .i64 (least : Int)], .string t] W (FiP W C (bl t)) := by
  obtain ⟨oa, cap, hlv⟩ := h.ls.form
  obtain ⟨n, hn⟩ : ∃ n, (C.map eR).length = n := ⟨_, rfl⟩
  rw [hn] at hlv
  subst hlv
  obtain ⟨B0, hB0⟩ : ∃ B, (W.alloc (.cells #[.slice oa n cap, .int .i64 (least : Int)] 53)).alloc (.cells #[.string ⟨#[]⟩, .string ⟨#[]⟩] 66) = B := ⟨_, rfl⟩
  have f0 : Fi W (.slice oa n cap) least B0 := by
    rw [← hB0]
    refine ⟨((Below.refl _ W).alloc (Nat.le_refl _) _).alloc (by simp) _, (alo _ _ (by simp)).trans (heap_alloc_new _ _), ?_⟩
    have := heap_alloc_new (W.alloc (.cells #[.slice oa n cap, .int .i64 (least : Int)] 53)) (.cells #[.string ⟨#[]⟩, .string ⟨#[]⟩] 66)
    simpa using this
  have HF0 : Hid (Fi W (.slice oa n cap) least B0) := f0
  have HB0 : Hid (_ = B0) := hB0
  have HCs : Hid (∀ (s : S) w, Below W.heap.size W w → Calls Tryd.prog 38 #[.agg #[.slice oa n cap, .int .i64 (least : Int)], .string s] w (AhP w C (bl s))) := fun s w hw => ahead_any w _ C least (h.below hw) hp s
  have HG : Hid (NE C ∧ (∀ x ∈ C, least ≤ x.1.size) ∧ least ≤ 2000000 ∧ t.size ≤ 4000000000) := ⟨hne, h.le, h.lb, ht⟩
  have SN : ∀ (w : World) (a b : S), _ := fun w a b => st_Cnew w a b
  clear h hp hne ht hn hB0 f0
  go_enter Tryd.func24, Tryd.ntmps24
  go_wp2_with fail
  rw [HB0.out]
  go_loopw [7, 8, 9] (fun kv _ _ wr => ∃ (k : Nat), kv = .int .i64 (k : Int) ∧ Hid (k ≤ t.size + 1 ∧ Fi W (.slice oa n cap) least wr ∧ ∀ j, j < k → hit C ((bl t).drop j) = none)) (fun kv _ _ _ => t.size + 2 - (intOf kv).toNat)
  case atStart => exact ⟨0, rfl, Nat.zero_le _, HF0.out, fun j q => by omega⟩
  case round =>
    obtain ⟨k, rfl, HI⟩ := hrel
    have k1 : wr.cell? ⟨W.heap.size, 1, none⟩ = some (.int .i64 (least : Int)) := c1 HI.out.2.1.box rfl
    have wl : IntKind.i64.wrap ((k : Int) + (least : Int)) = (k : Int) + (least : Int) := by rw [IntKind.wrap_i64]; have := HG.out.2.2; have := HI.out.1; omega
    by_cases hk : k + least ≤ t.size
    · have hk1 : (k : Int) + (least : Int) ≤ (t.size : Int) := by omega
      have hk0 : (0 : Int) ≤ (k : Int) := by omega
      have hk2 : (k : Int) ≤ (t.size : Int) := by omega
      have HK : Hid (k ≤ t.size) := by show k ≤ t.size; omega
      have wk : IntKind.i64.wrap ((k : Int) + 1) = (k : Int) + 1 := by rw [IntKind.wrap_i64]; have := HG.out.2.2; omega
      have fE := HI.out.2.1.below (below_drw wr)
      have lE := ld_H wr.drew W.heap.size _ rfl fE.box
      have lE2 := ld_H (wr.alloc (.cells #[.string ⟨#[]⟩, .string ⟨#[]⟩] 66)).drew W.heap.size _ rfl ((alo wr _ (by have := HI.out.2.1.sz; omega)).trans HI.out.2.1.box)
      have fE2 : Fi W (.slice oa n cap) least (wr.alloc (.cells #[.string ⟨#[]⟩, .string ⟨#[]⟩] 66)).drew := HI.out.2.1.below (below_dr ((Below.refl _ wr).alloc (Nat.le_refl _) _))
      have hbl : bl (t.extract k t.size) = (bl t).drop k := by rw [bl_ext, List.take_of_length_le (by rw [bl_len]; exact Nat.le_refl _)]
      have HC1 : Hid _ := HCs.out (t.extract k t.size) wr.drew fE.bel
      have HC2 : Hid _ := HCs.out (t.extract k t.size) (wr.alloc (.cells #[.string ⟨#[]⟩, .string ⟨#[]⟩] 66)).drew fE2.bel
      rw [hbl] at HC1 HC2
      have HY1 : Hid (∀ Y, Below wr.drew.heap.size wr.drew Y → Fi W (.slice oa n cap) least Y) := fun Y hY => fE.below hY
      have HY2 : Hid (∀ Y, Below (wr.alloc (.cells #[.string ⟨#[]⟩, .string ⟨#[]⟩] 66)).drew.heap.size (wr.alloc (.cells #[.string ⟨#[]⟩, .string ⟨#[]⟩] 66)).drew Y → ∀ x1 x2 : S, ∃ Z, (stC (.pointer (some ⟨wr.heap.size, 0, none⟩)) (.agg #[.string x1, .string x2])).run Tryd.prog Y = .ok () Z ∧ Fou W (.slice oa n cap) least wr.heap.size (x1, x2) Z) := fun Y hY x1 x2 => fou_old (fE2.below hY) ((hY.block _ (by show wr.heap.size < (wr.alloc _).heap.size; simp)).trans (heap_alloc_new _ _)) HI.out.2.1.sz x1 x2
      clear hk fE fE2 hbl
      go_wp2_with fail
      go_region_with (first | (go_at_call 38; refine Calls.mono HC2.out ?_; rintro e Y ⟨⟨x1, x2⟩, b, rfl, h1, h2, bY⟩; unfold eR; obtain ⟨Z, sZ, fZ⟩ := HY2.out Y bY x1 x2; have HFZ : Hid (Fou W (.slice oa n cap) least wr.heap.size (x1, x2) Z) := fZ; have HHt : Hid ((b = true → hit C ((bl t).drop k) = some (x1, x2)) ∧ (b = false → hit C ((bl t).drop k) = none)) := ⟨h1, h2⟩; clear fZ h1 h2 bY) | (go_at_call 38; refine Calls.mono HC1.out ?_; rintro e Y ⟨⟨x1, x2⟩, b, rfl, h1, h2, bY⟩; unfold eR; have HFZ : Hid (Fou W (.slice oa n cap) least Y.heap.size (x1, x2) (Y.alloc (.cells #[.string x1, .string x2] 66))) := fou_new (HY1.out Y bY) x1 x2; have HHt : Hid ((b = true → hit C ((bl t).drop k) = some (x1, x2)) ∧ (b = false → hit C ((bl t).drop k) = none)) := ⟨h1, h2⟩; clear h1 h2 bY))
      all_goals obtain ⟨fi, ld, Z2, st, HZ2⟩ := HFZ.out
      all_goals simp only at ld st
      all_goals have HFi : Hid (Fi W (.slice oa n cap) least _) := fi
      all_goals clear fi HC1 HC2 lE lE2
      all_goals cases b with
        | true =>
          go_wp2_with fail
          go_region
          go_wp2_with fail
          refine bodyPost_ret (results_C3 rfl _ _ (W.heap.size + 1) _ rfl rfl HZ2.out.1) rfl ?_
          exact ⟨k, (x1, x2), true, rfl, (fun _ => ⟨by rw [bl_len]; exact HK.out, HI.out.2.2, HHt.out.1 (by trivial)⟩), (fun q => by cases q), HZ2.out.2⟩
        | false =>
          go_wp2_with fail
          go_roundw
          case rel => exact ⟨k + 1, by go_num, by have := HK.out; show k + 1 ≤ _; omega, HFi.out, fun j hj => by
            by_cases q : j = k
            · rw [q]; exact HHt.out.2 (by trivial)
            · exact HI.out.2.2 j (by omega)⟩
          case measure => have := HK.out; simp [intOf]; omega
    · have hk1 : ¬ ((k : Int) + (least : Int) ≤ (t.size : Int)) := by omega
      have hall : ∀ j, hit C ((bl t).drop j) = none := fun j => by
        by_cases q : j < k
        · exact HI.out.2.2 j q
        · refine hit_none.2 fun x hx hpre => ?_
          have h1 := hpre.length_le
          rw [List.length_drop, bl_len, bl_len] at h1
          have h2 := HG.out.2.1 x hx
          have h3 : 0 < x.1.size := by rw [← bl_len]; exact List.length_pos_iff.2 (HG.out.1 x hx)
          omega
      obtain ⟨Z, sz, rz, bz, -⟩ := st_Crow wr (W.heap.size + 1) _ rfl ZP HI.out.2.1.ans
      have HZ : Hid ((∀ j, hit C ((bl t).drop j) = none) ∧ Z.heap[W.heap.size + 1]? = some (.cells (eR ZP) 66 (0, 0)) ∧ Below W.heap.size W Z) := ⟨hall, rz, HI.out.2.1.bel.trans (bz _ (by omega))⟩
      have bd := bd_C0 wr
      unfold ZP at sz
      clear hk hall rz bz
      go_wp2_with fail
      refine bodyPost_ret (results_C3 rfl _ _ (W.heap.size + 1) _ rfl rfl HZ.out.2.1) rfl ?_
      exact ⟨0, ZP, false, rfl, (fun q => by cases q), fun _ => HZ.out.1, HZ.out.2.2⟩
end
end Go.Proofs.YtceclpabdfncoaaDoor.Re
