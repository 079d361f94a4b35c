/- ahead: the change with which a text begins. -/
import Derived.Test.YtceclpabdfncoaaDoorRsJa
import Derived.Shelf.SlSorted.Search
import Derived.Ground.SlsoProg
import Derived.Laws.Cover1
namespace Go.Proofs.YtceclpabdfncoaaDoor.Re
open Go.RowKit Go.Shelf Go.Sort
shelf_lay SlLaysO.n16 Slso 16 at Tryd as Tryd.seaL
theorem bls : ∀ a b : Bts, Op.bytesLess a b = true ↔ tn a < tn b
  | [], [] => by simp [Op.bytesLess, tn]
  | _ :: _, [] => by simp [Op.bytesLess, tn]
  | [], _ :: _ => by simp [Op.bytesLess, tn]
  | x :: a, y :: b => by
    unfold Op.bytesLess
    rw [tn_cons, tn_cons, List.cons_lt_cons_iff, Bool.or_eq_true, Bool.and_eq_true, bls a b, decide_eq_true_iff, beq_iff_eq, UInt8.lt_iff_toNat_lt, ← UInt8.toNat_inj]
/-- Is it behind a text in order? -/
def pG (C : List Pai) (t : S) (i : Nat) : Bool := !(Op.bytesLess (ByteArray.toList (C.getD i ZP).1) (ByteArray.toList t) || ByteArray.toList (C.getD i ZP).1 == ByteArray.toList t)
theorem pG_iff {C : List Pai} {t : S} {i : Nat} {x : Pai} (h : C[i]? = some x) : pG C t i = true ↔ ¬ Le (bl x.1) (bl t) := by
  have e : C.getD i ZP = x := by simp [List.getD, h]
  unfold pG
  rw [e, bl_tl, bl_tl, Bool.not_eq_true', Bool.or_eq_false_iff, beq_eq_false_iff_ne, ← Bool.not_eq_true, bls]
  constructor
  · rintro ⟨h1, h2⟩ h3
    exact h2 (le_anti h3 h1)
  · intro h1
    refine ⟨fun q => h1 ?_, fun q => h1 ?_⟩
    · unfold Le; exact List.lt_asymm q
    · rw [q]; exact List.lt_irrefl _
theorem pG_mono {C : List Pai} (hs : Sd C) (t : S) : ∀ a b, a ≤ b → b < C.length → pG C t a = true → pG C t b = true := fun a b hab hb ha => by
  by_cases e : a = b
  · rw [← e]; exact ha
  · have h1 : C[a]? = some C[a] := List.getElem?_eq_getElem (by omega)
    have h2 : C[b]? = some C[b] := List.getElem?_eq_getElem hb
    rw [pG_iff h1] at ha
    rw [pG_iff h2]
    exact fun q => ha ((hs a b _ _ (by omega) h1 h2).trans q)
/-- The changes as they are handed over. -/
structure Chs (W : World) (lv : Value) (C : List Pai) (least : Nat) : Prop where
  ls : Ls W lv 2 (C.map eR)
  sd : Sd C
  len : C.length ≤ 10000000
  le : ∀ x ∈ C, least ≤ x.1.size
  lb : least ≤ 2000000
  sz : ∀ x ∈ C, x.1.size ≤ 2000000 ∧ x.2.size ≤ 2000000
theorem Chs.below {W W' : World} {lv : Value} {C : List Pai} {least : Nat} (h : Chs W lv C least) (hb : Below W.heap.size W W') : Chs W' lv C least := ⟨h.ls.below hb, h.sd, h.len, h.le, h.lb, h.sz⟩
set_option maxRecDepth 100000 in
theorem closA_any (C : List Pai) (t : S) (i : Nat) (x : Pai) (hx : C[i]? = some x) (cb tb n cap g o : Nat) (hn : C.length = n) (W : World) (h1 : W.cell? ⟨cb, 0, none⟩ = some (.slice (some ⟨g, o, none⟩) n cap)) (h2 : W.cell? ⟨tb, 0, none⟩ = some (.string t)) (h3 : W.cell? ⟨g, o + i * 2, none⟩ = some (.string x.1)) :
    Calls Tryd.prog 55 #[.int .i64 (i : Int), .pointer (some ⟨cb, 0, none⟩), .pointer (some ⟨tb, 0, none⟩)] W fun e w' => e = .returned (.bool (pG C t i)) ∧ ∃ q, w' = W.drewN q := by
  have hi : i < n := by have := (List.getElem?_eq_some_iff.1 hx).1; omega
  have e : pG C t i = !(Op.bytesLess (ByteArray.toList x.1) (ByteArray.toList t) || ByteArray.toList x.1 == ByteArray.toList t) := by
    unfold pG
    rw [show C.getD i ZP = x by simp [List.getD, hx]]
  rw [e]
  have hi0 : (0 : Int) ≤ (i : Int) := by omega
  have hi1 : (i : Int) < (n : Int) := by omega
  have k1 : ∀ k, (W.drewN k).cell? ⟨cb, 0, none⟩ = some (.slice (some ⟨g, o, none⟩) n cap) := fun k => h1
  have k2 : ∀ k, (W.drewN k).cell? ⟨tb, 0, none⟩ = some (.string t) := fun k => h2
  have k3 : ∀ k, (W.drewN k).cell? ⟨g, o + i * 2, none⟩ = some (.string x.1) := fun k => h3
  obtain ⟨x1, x2⟩ := x
  clear hx e hi hn
  go_enter Tryd.func55, Tryd.ntmps55
  go_wp2_with fail
  go_quiet (fail)
  go_wp2_with fail
  go_ret
  exact ⟨by simp, nq, rfl⟩
theorem results_C2 {fn : Func} {p u : Tmp} (h : fn.results = #[.cell p 66, .tmp u]) (tmps : Array Value) (w : World) (g : Nat) (C : Array Value) (hC : C.size = 2)
    (hp : tmps.getD p undef = .pointer (some ⟨g, 0, none⟩)) (hg : w.heap[g]? = some (.cells C 66 (0, 0))) :
    (results fn tmps).run Tryd.prog w = .ok (.tuple #[.agg C, tmps.getD u undef]) w := by
  have hp' : tmps[p]?.getD undef = .pointer (some ⟨g, 0, none⟩) := by simpa using hp
  simp [results, h, hp', asAddr, run_loadVar_row w g 66 66 C (0, 0) _ hg Tryd.underlying66 rfl (by rw [sizeC, hC])]
theorem alo (w : World) (o : Obj) {j : Nat} (hj : j < w.heap.size) : (w.alloc o).heap[j]? = w.heap[j]? := ((Below.refl _ w).alloc (Nat.le_refl _) o).block j hj
/-- What ahead leaves. -/
def AhP (W : World) (C : List Pai) (t : Bts) (e : Ending) (w' : World) : Prop := ∃ (x : Pai) (b : Bool), e = .returned (.tuple #[.agg (eR x), .bool b]) ∧ (b = true → hit C t = some x) ∧ (b = false → hit C t = none) ∧ Below W.heap.size W w'
theorem st_Crow (w : World) (g : Nat) (c : Array Value) (hc : c.size = 2) (x : Pai) (hg : w.heap[g]? = some (.cells c 66 (0, 0))) : ∃ Z, (stC (.pointer (some ⟨g, 0, none⟩)) (.agg #[.string x.1, .string x.2])).run Tryd.prog w = .ok () Z ∧ Z.heap[g]? = some (.cells (eR x) 66 (0, 0)) ∧ (∀ B, B ≤ g → Below B w Z) ∧ (∀ j, j ≠ g → Z.heap[j]? = w.heap[j]?) := by
  have := st_C w g 0 x (fun j hj => by
    refine ⟨?_, frozen_of_row _ _ _ _ _ hg⟩
    rw [cell_of_row _ _ _ _ _ _ hg]
    have : 0 + j < c.size := by omega
    simp
    omega)
  refine ⟨_, this, ?_, fun B hB => ((Below.refl B w).setCell (p := ⟨g, 0, none⟩) hB _).setCell (p := ⟨g, 0 + 1, none⟩) hB _, fun j hj => ?_⟩
  · have h1 := heap_setCell_same w g 0 c _ (.string x.1) hg
    have h2 := heap_setCell_same _ g 1 _ _ (.string x.2) h1
    rw [Nat.zero_add, h2]
    obtain ⟨l⟩ := c
    match l, hc with
    | [a, b], _ => rfl
  · rw [heap_setCell_other _ _ _ _ (by exact hj), heap_setCell_other _ _ _ _ (by exact hj)]
section
attribute [local go_sem ↓] toStC toBdC toLdC
set_option maxRecDepth 100000 in
set_option maxHeartbeats 3200000 in
theorem ahead_any (W : World) (lv : Value) (C : List Pai) (least : Nat) (h : Chs W lv C least) (hp : PF C) (t : S) : Calls Tryd.prog 38 #[.agg #[lv, .int .i64 (least : Int)], .string t] W (AhP W C (bl t)) := by
  obtain ⟨oa, cap, rfl⟩ := h.ls.form
  rw [List.length_map] at h ⊢
  obtain ⟨n, hn⟩ : ∃ n, C.length = n := ⟨_, rfl⟩
  rw [hn] at h ⊢
  obtain ⟨B0, hB0⟩ : ∃ B, ((W.alloc (.cells #[.slice oa n cap, .int .i64 (least : Int)] 53)).alloc (.cells #[.string t] 9)).alloc (.cells #[.string ⟨#[]⟩, .string ⟨#[]⟩] 66) = B := ⟨_, rfl⟩
  have b0 : Below W.heap.size W B0 := by rw [← hB0]; exact (((Below.refl _ W).alloc (Nat.le_refl _) _).alloc (by simp) _).alloc (by simp; omega) _
  have z0 : B0.heap.size = W.heap.size + 3 := by rw [← hB0]; simp
  have r0 : B0.heap[W.heap.size]? = some (.cells #[.slice oa n cap, .int .i64 (least : Int)] 53 (0, 0)) := by rw [← hB0, alo _ _ (by simp; omega), alo _ _ (by simp)]; exact heap_alloc_new _ _
  have r1 : B0.heap[W.heap.size + 1]? = some (.cells #[.string t] 9 (0, 0)) := by
    rw [← hB0, alo _ _ (by simp)]
    have := heap_alloc_new (W.alloc (.cells #[.slice oa n cap, .int .i64 (least : Int)] 53)) (.cells #[.string t] 9)
    simpa using this
  have r2 : B0.heap[W.heap.size + 2]? = some (.cells #[.string ⟨#[]⟩, .string ⟨#[]⟩] 66 (0, 0)) := by
    rw [← hB0]
    have := heap_alloc_new ((W.alloc (.cells #[.slice oa n cap, .int .i64 (least : Int)] 53)).alloc (.cells #[.string t] 9)) (.cells #[.string ⟨#[]⟩, .string ⟨#[]⟩] 66)
    simpa using this
  have hel : ∀ (i : Nat) x, C[i]? = some x → ∃ g o, oa = some ⟨g, o, none⟩ ∧ g < W.heap.size ∧ W.rangeAt g (o + i * 2) (eR x).toList := fun i x hx => h.ls.at i _ (by rw [List.getElem?_map, hx]; rfl)
  have eg : ∀ args w, (callFunc 55 args).run Tryd.prog w = .ok (.enter 55 args) w := enters_of Tryd.func55 (by kernel_rfl) rfl
  have SE := Any.sort_Search Tryd.seaL 55 #[.pointer (some ⟨W.heap.size, 0, none⟩), .pointer (some ⟨W.heap.size + 1, 0, none⟩)] n (pG C t) B0 eg (by have := h.len; omega) (fun m os i hi => by
    have hx : C[i]? = some C[i] := List.getElem?_eq_getElem (by omega)
    obtain ⟨g, o, rfl, hg, rr⟩ := hel i _ hx
    have bg : Below B0.heap.size B0 (grow (B0.drewN m) os) := below_grown_sl _ _ _ _ (Nat.le_refl _)
    have bb : Below W.heap.size W (grow (B0.drewN m) os) := b0.trans (bg.mono b0.size)
    refine (closA_any C t i _ hx W.heap.size (W.heap.size + 1) n cap g o hn _ (c1 ((bg.block _ (by omega)).trans r0) rfl) (c1 ((bg.block _ (by omega)).trans r1) rfl) ?_).mono ?_
    · have := range_block rr (bb.block _ hg) 0 (.string C[i].1) rfl
      exact this
    · rintro e w' ⟨he, q, rfl⟩
      exact ⟨he, q, #[], by rw [grow_empty]⟩) (by rw [← hn]; exact pG_mono h.sd t)
  have SE' : Calls Tryd.prog 54 #[.int .i64 (n : Int), .func (.func 55) #[] #[.pointer (some ⟨W.heap.size, 0, none⟩), .pointer (some ⟨W.heap.size + 1, 0, none⟩)]] B0 fun e w' => e = .returned (.int .i64 ((List.range n).countP (fun i => !pG C t i) : Nat)) ∧ ∃ q os, w' = grow (B0.drewN q) os := SE
  have cm := cnt_mono (pG C t) n (by rw [← hn]; exact pG_mono h.sd t)
  obtain ⟨c, hc⟩ : ∃ c, (List.range n).countP (fun i => !pG C t i) = c := ⟨_, rfl⟩
  rw [hc] at SE' cm
  have HS : Hid _ := SE'
  have HB0 : Hid (_ = B0) := hB0
  have HH : Hid (C.length = n ∧ Sd C ∧ PF C ∧ c ≤ n ∧ (∀ i, i < c → pG C t i = false) ∧ (∀ i, c ≤ i → i < n → pG C t i = true) ∧ n ≤ 10000000) := ⟨hn, h.sd, hp, cm.1, cm.2.1, cm.2.2, by have := h.len; omega⟩
  have HR : Hid (Below W.heap.size W B0 ∧ B0.heap.size = W.heap.size + 3 ∧ B0.heap[W.heap.size]? = some (.cells #[.slice oa n cap, .int .i64 (least : Int)] 53 (0, 0)) ∧ B0.heap[W.heap.size + 1]? = some (.cells #[.string t] 9 (0, 0)) ∧ B0.heap[W.heap.size + 2]? = some (.cells #[.string ⟨#[]⟩, .string ⟨#[]⟩] 66 (0, 0))) := ⟨b0, z0, r0, r1, r2⟩
  have HEL : Hid _ := hel
  clear SE SE' cm hc h hp hn hB0 b0 z0 r0 r1 r2 hel eg
  go_enter Tryd.func38, Tryd.ntmps38
  go_wp2_with fail
  rw [HB0.out]
  refine Calls.mono HS.out ?_
  rintro e w1 ⟨rfl, q, os, hw1⟩
  have b1 : Below B0.heap.size B0 w1 := by rw [hw1]; exact below_grown_sl _ _ _ _ (Nat.le_refl _)
  obtain ⟨b0, z0, r0, r1, r2⟩ := HR.out
  have s0 := (b1.block _ (by omega)).trans r0
  have s1 := (b1.block _ (by omega)).trans r1
  have s2 := (b1.block _ (by omega)).trans r2
  have bW : Below W.heap.size W w1 := b0.trans (b1.mono b0.size)
  have hz1 : W.heap.size + 3 ≤ w1.heap.size := by have := b1.size; omega
  clear hw1 b1 b0 r0 r1 r2 z0 HS
  by_cases hc0 : c = 0
  · subst hc0
    have hnone : hit C (bl t) = none := hit_none.2 fun x hx hpre => by
      obtain ⟨i, hi⟩ := List.mem_iff_getElem?.1 hx
      have := (List.getElem?_eq_some_iff.1 hi).1
      have h2 := HH.out.2.2.2.2.2.1 i (Nat.zero_le _) (by have := HH.out.1; omega)
      rw [pG_iff hi] at h2
      exact h2 (pre_le hpre)
    obtain ⟨Z, sz, rz, bz, -⟩ := st_Crow w1 (W.heap.size + 2) _ rfl ZP s2
    have bd := bd_C0 w1
    have HZ : Hid (hit C (bl t) = none ∧ Z.heap[W.heap.size + 2]? = some (.cells (eR ZP) 66 (0, 0)) ∧ Below W.heap.size W Z) := ⟨hnone, rz, bW.trans (bz _ (by omega))⟩
    unfold ZP at sz
    clear hnone rz bz bW s0 s1 s2 hz1
    go_wp2_with fail
    refine bodyPost_ret (results_C2 rfl _ _ (W.heap.size + 2) _ rfl rfl HZ.out.2.1) rfl ?_
    exact ⟨ZP, false, rfl, (fun q => by cases q), fun _ => HZ.out.1, HZ.out.2.2⟩
  · obtain ⟨k, hck⟩ : ∃ k, c = k + 1 := ⟨c - 1, by omega⟩
    have hk : k < n := by have := HH.out.2.2.2.1; omega
    obtain ⟨x, hx⟩ : ∃ x, C[k]? = some x := ⟨_, List.getElem?_eq_getElem (by have := HH.out.1; omega)⟩
    have hle : Le (bl x.1) (bl t) := by
      have := HH.out.2.2.2.2.1 k (by omega)
      by_cases q : Le (bl x.1) (bl t)
      · exact q
      · rw [(pG_iff hx).2 q] at this; cases this
    have hhit := hit_last HH.out.2.1 HH.out.2.2.1 hx hle (fun i y hi hy => by
      have h1 := HH.out.2.2.2.2.2.1 i (by omega) (by have := (List.getElem?_eq_some_iff.1 hy).1; have := HH.out.1; omega)
      rw [pG_iff hy] at h1
      exact h1)
    obtain ⟨g, o, rfl, hg, rr⟩ := HEL.out k x hx
    have k0 : w1.cell? ⟨W.heap.size, 0, none⟩ = some (.slice (some ⟨g, o, none⟩) n cap) := c1 s0 rfl
    have lC := ld_C w1 g (o + k * 2) x (range_block rr (bW.block _ hg))
    obtain ⟨X, sx, rx, bx, ox⟩ := st_Crow (w1.alloc (.cells #[.string ⟨#[]⟩, .string ⟨#[]⟩] 66)) w1.heap.size _ rfl x (heap_alloc_new _ _)
    have bA : Below w1.heap.size w1 X := ((Below.refl _ w1).alloc (Nat.le_refl _) _).trans (bx _ (Nat.le_refl _))
    have lX := ld_C X.drew w1.heap.size 0 x (by
      have := World.rangeAt_of_block rx 0 2
      exact this)
    have t2 : X.drew.heap[W.heap.size + 2]? = some (.cells #[.string ⟨#[]⟩, .string ⟨#[]⟩] 66 (0, 0)) := (bA.block _ (by omega)).trans s2
    obtain ⟨Z, sz, rz, bz, -⟩ := st_Crow X.drew (W.heap.size + 2) _ rfl x t2
    have c2 : X.drew.cell? ⟨W.heap.size + 1, 0, none⟩ = some (.string t) := c1 ((bA.block _ (by omega)).trans s1) rfl
    have c3 : X.drew.cell? ⟨w1.heap.size, 0, none⟩ = some (.string x.1) := c1 (w := X) rx rfl
    have bWX : Below W.heap.size W X := bW.trans (bA.mono bW.size)
    have bWZ : Below W.heap.size W Z := ((bWX.trans ⟨rfl, rfl, rfl, Nat.le_refl _, fun _ _ => rfl⟩ : Below W.heap.size W X.drew)).trans (bz _ (by omega))
    have HP : Hid (∀ w, Calls Tryd.prog 23 #[.string t, .string x.1] w fun e w' => e = .returned (.bool ((bl x.1).isPrefixOf (bl t))) ∧ w' = w) := fun w => hasp_any t x.1 w
    obtain ⟨b, hb⟩ : ∃ b, (bl x.1).isPrefixOf (bl t) = b := ⟨_, rfl⟩
    rw [hb] at HP hhit
    have HZ : Hid (hit C (bl t) = (if b then some x else none) ∧ Z.heap[W.heap.size + 2]? = some (.cells (eR x) 66 (0, 0)) ∧ Below W.heap.size W Z) := ⟨hhit, rz, bWZ⟩
    have hk0 : (0 : Int) ≤ (k : Int) := by omega
    have hk1 : (k : Int) < (n : Int) := by omega
    have wk : IntKind.i64.wrap ((c : Int) - 1) = (k : Int) := by rw [IntKind.wrap_i64]; have := HH.out.2.2.2.2.2.2; omega
    have hne : ((c : Int) == 0) = false := by rw [beq_eq_false_iff_ne]; omega
    obtain ⟨x1, x2⟩ := x
    unfold eR at lC lX
    clear hc0 hck hx hle hhit rr hg bW s0 s1 s2 hz1 rx bx ox bA t2 rz bz bWX bWZ hb hk
    go_wp2_with fail
    go_region_with (go_at_call 23; refine Calls.mono (HP.out _) ?_; rintro e w' ⟨rfl, rfl⟩)
    all_goals go_wp2_with fail
    all_goals refine bodyPost_ret (results_C2 rfl _ _ (W.heap.size + 2) _ rfl rfl HZ.out.2.1) rfl ?_
    all_goals exact ⟨(x1, x2), b, rfl, (fun q => by have := HZ.out.1; rw [q] at this; exact this), (fun q => by have := HZ.out.1; rw [q] at this; exact this), HZ.out.2.2⟩
end
end Go.Proofs.YtceclpabdfncoaaDoor.Re
