/- The laws' right, whole. -/
import Derived.Test.YtceclpabdfncoaaDoorRwN
namespace Go.Proofs.YtceclpabdfncoaaDoor.Re
open Go.RowKit
def ldSp (p : Value) : Sem Value := Instr.loadAt 25 p
theorem toLdSp (p : Value) : Instr.loadAt 25 p = ldSp p := rfl
set_option maxRecDepth 100000 in
theorem sizeSp : (Tryd.prog.info? 25).map (·.size) = some 9 := by kernel_rfl
theorem ld_Sp (w : World) (g : Nat) (c : Array Value) (hc : c.size = 9) (h : w.heap[g]? = some (.cells c 25 (0, 0))) : (ldSp (.pointer (some ⟨g, 0, none⟩))).run Tryd.prog w = .ok (.agg c) w := by
  unfold ldSp
  simp only [Instr.loadAt, Instr.sureAddr, Sem.run_bind, Sem.run_pure, Result.andThen_ok, run_loadVar_row w g 25 25 c (0, 0) _ h Tryd.underlying25 rfl (by rw [sizeSp, hc])]
/-- The recipe as it is begun. -/
def beg (O : List Out) (b : S) : Rcp := ⟨O, [], [], ⟨#[97, 110, 121]⟩, b, [], []⟩
/-- The recipe's variable is written first. -/
theorem rt_beg {W : World} {C : Array Value} {Y : World} {a' : Option Addr} {n' c' : Nat} {O : List Out} (b : S) (bel : Below W.heap.size W Y) (box : Y.heap[W.heap.size]? = some (.cells C 25 (0, 0))) (res : Y.heap[W.heap.size + 1]? = some (.cells zR 33 (0, 0))) {q : Nat} (row : Y.heap[q]? = some (.cells zR 33 (0, 0))) (hq : W.heap.size + 1 < q) (ho : Ol W.heap.size 48 4 Y (.slice a' n' c') (O.map oR)) :
    ∃ Z, (stR (.pointer (some ⟨q, 0, none⟩)) (.agg #[.slice a' n' c', .slice none 0 0, .slice none 0 0, .string ⟨#[97, 110, 121]⟩, .string b, .slice none 0 0, .slice none 0 0])).run Tryd.prog Y = .ok () Z ∧ Rt W C q (.slice a' n' c') (.slice none 0 0) (.slice none 0 0) (.slice none 0 0) (.slice none 0 0) [] (beg O b) Z := by
  refine ⟨_, st_R Y q zR _ rfl rfl (by simp [Value.oneCell']) row, below_setRow bel (by omega) _, (setRow_other _ _ _ _ (by omega)).trans box, (setRow_other _ _ _ _ (by omega)).trans res, setRow_heap _ _ _ _ _ _ row, hq, ho.row row (by decide), ol_nil _ _ _ _, ol_nil _ _ _ _, ol_nil _ _ _ _, ol_nil _ _ _ _, rfl, fun i x u z1 z2 => by cases z2⟩
theorem bn_beg {O : List Out} {b : S} (h1 : O.length ≤ 10) (h2 : ∀ x ∈ O, x.2.1.size ≤ 300) : Bn (beg O b) := ⟨h1, Nat.zero_le _, (fun x hx => by cases hx), Nat.zero_le _, Nat.zero_le _, Nat.zero_le _, h2, (fun x hx => by cases hx), fun x hx => by cases hx⟩
section
attribute [local go_sem ↓] toLdSp toStR
set_option maxRecDepth 100000 in
set_option maxHeartbeats 12800000 in
theorem right_any (W : World) (nv sv iv av kv : Value) (p : Sp) (h : SpH W nv sv iv av kv p) : Calls Tryd.prog 5 #[.agg (spV nv sv iv av kv p)] W (RiP W) := by
  obtain ⟨nm, md, fl, so, ip, ar, ks, tx, sd⟩ := p
  obtain ⟨oar, car, rfl⟩ := h.ar.form
  obtain ⟨okk, ckk, rfl⟩ := h.ks.form
  obtain ⟨oso, cso, rfl, -⟩ := h.so.form
  obtain ⟨oip, cip, rfl, -⟩ := h.ip.form
  rw [List.length_map] at h ⊢
  rw [List.length_map] at h ⊢
  obtain ⟨lar, hlar⟩ : ∃ k, ar.length = k := ⟨_, rfl⟩
  obtain ⟨lks, hlks⟩ : ∃ k, ks.length = k := ⟨_, rfl⟩
  obtain ⟨lso, hlso⟩ : ∃ k, so.length = k := ⟨_, rfl⟩
  obtain ⟨lip, hlip⟩ : ∃ k, ip.length = k := ⟨_, rfl⟩
  simp only [hlar, hlks, hlso, hlip] at h ⊢
  obtain ⟨C, hC⟩ : ∃ C : Array Value, C = spV nv (.slice oso lso cso) (.slice oip lip cip) (.slice oar lar car) (.slice okk lks ckk) ⟨nm, md, fl, so, ip, ar, ks, tx, sd⟩ := ⟨_, rfl⟩
  have HC : Hid (C = spV nv (.slice oso lso cso) (.slice oip lip cip) (.slice oar lar car) (.slice okk lks ckk) ⟨nm, md, fl, so, ip, ar, ks, tx, sd⟩) := hC
  have HS : Hid (SpH W nv (.slice oso lso cso) (.slice oip lip cip) (.slice oar lar car) (.slice okk lks ckk) ⟨nm, md, fl, so, ip, ar, ks, tx, sd⟩ ∧ ar.length = lar ∧ ks.length = lks ∧ so.length = lso ∧ ip.length = lip) := ⟨h, hlar, hlks, hlso, hlip⟩
  rw [← hC]
  clear h hlar hlks hlso hlip hC
  obtain ⟨A0, hA0⟩ : ∃ A, (W.alloc (.cells C 25)).alloc (.cells #[.slice none 0 0, .slice none 0 0, .slice none 0 0, .string ⟨#[]⟩, .string ⟨#[]⟩, .slice none 0 0, .slice none 0 0] 33) = A := ⟨_, rfl⟩
  obtain ⟨A1, hA1⟩ : ∃ A, A0.alloc (.cells #[.slice none 0 0, .slice none 0 0, .slice none 0 0, .string ⟨#[]⟩, .string ⟨#[]⟩, .slice none 0 0, .slice none 0 0] 33) = A := ⟨_, rfl⟩
  have z0 : A0.heap.size = W.heap.size + 2 := by rw [← hA0]; simp
  have z1 : A1.heap.size = W.heap.size + 3 := by rw [← hA1]; simp [z0]
  have b0 : Below W.heap.size W A0 := by rw [← hA0]; exact ((Below.refl _ W).alloc (Nat.le_refl _) _).alloc (by simp) _
  have x0 : A0.heap[W.heap.size]? = some (.cells C 25 (0, 0)) := by rw [← hA0]; exact (heap_alloc_old _ _ (h := by simp)).trans (heap_alloc_new _ _)
  have r0 : A0.heap[W.heap.size + 1]? = some (.cells zR 33 (0, 0)) := by
    rw [← hA0]
    have := heap_alloc_new (W.alloc (.cells C 25)) (.cells #[.slice none 0 0, .slice none 0 0, .slice none 0 0, .string ⟨#[]⟩, .string ⟨#[]⟩, .slice none 0 0, .slice none 0 0] 33)
    rw [heap_size_alloc] at this
    exact this
  have b01 : Below A0.heap.size A0 A1 := by rw [← hA1]; exact (Below.refl _ A0).alloc (Nat.le_refl _) _
  have w1 : A1.heap[W.heap.size + 2]? = some (.cells zR 33 (0, 0)) := by rw [← hA1, ← z0]; exact heap_alloc_new _ _
  have d0 : Below A0.heap.size A0 A0.drew := ⟨rfl, rfl, rfl, Nat.le_refl _, fun _ _ => rfl⟩
  have d1 : Below A0.heap.size A0 A1.drew := ⟨b01.os, b01.tape, b01.output, b01.size, b01.block⟩
  have FF : ∀ Y, Below A0.heap.size A0 Y → Below W.heap.size W Y ∧ Y.heap[W.heap.size]? = some (.cells C 25 (0, 0)) ∧ Y.heap[W.heap.size + 1]? = some (.cells zR 33 (0, 0)) ∧ Y.cell? ⟨W.heap.size, 7, none⟩ = some (.string tx) ∧ (ldSp (.pointer (some ⟨W.heap.size, 0, none⟩))).run Tryd.prog Y = .ok (.agg C) Y := fun Y hY => by
    have x1 := (hY.block _ (by omega)).trans x0
    exact ⟨b0.trans (hY.mono (by omega)), x1, (hY.block _ (by omega)).trans r0, c1 x1 (by rw [HC.out]; rfl), ld_Sp Y _ C (by rw [HC.out]; rfl) x1⟩
  have k0 := (FF A0.drew d0).2.2.2.1
  have l0 := (FF A0.drew d0).2.2.2.2
  have k1 := (FF A1.drew d1).2.2.2.1
  have l1 := (FF A1.drew d1).2.2.2.2
  have q1 : ¬ (9223372036854775807 < 1 + tx.size) := by have := HS.out.1.tz; simp at this; omega
  have CO0 : Hid (Calls Tryd.prog 7 #[.agg C] A0.drew (OuP A0.drew)) := by rw [HC.out]; exact outs_any _ _ _ _ _ _ _ (HS.out.1.below (FF A0.drew d0).1)
  have CO1 : Hid (Calls Tryd.prog 7 #[.agg C] A1.drew (OuP A1.drew)) := by rw [HC.out]; exact outs_any _ _ _ _ _ _ _ (HS.out.1.below (FF A1.drew d1).1)
  have H0 : Hid (∀ Y a' n' c', OuL A0.drew.heap.size 10 Y (.slice a' n' c') → Below A0.drew.heap.size A0.drew Y → Y.cell? ⟨W.heap.size, 7, none⟩ = some (.string tx) ∧ (∀ O, (Y.alloc O).cell? ⟨W.heap.size, 7, none⟩ = some (.string tx)) ∧ ∃ Z, (stR (.pointer (some ⟨Y.heap.size, 0, none⟩)) (.agg #[.slice a' n' c', .slice none 0 0, .slice none 0 0, .string ⟨#[97, 110, 121]⟩, .string (⟨#[98]⟩ ++ tx), .slice none 0 0, .slice none 0 0])).run Tryd.prog (Y.alloc (.cells #[.slice none 0 0, .slice none 0 0, .slice none 0 0, .string ⟨#[]⟩, .string ⟨#[]⟩, .slice none 0 0, .slice none 0 0] 33)) = .ok () Z ∧ Hid (∃ O, Rt W C Y.heap.size (.slice a' n' c') (.slice none 0 0) (.slice none 0 0) (.slice none 0 0) (.slice none 0 0) [] (beg O (⟨#[98]⟩ ++ tx)) Z ∧ Bn (beg O (⟨#[98]⟩ ++ tx)))) := by
    rintro Y a' n' c' ⟨O, o1, o2, o3⟩ bY
    have bY0 : Below A0.heap.size A0 Y := d0.trans bY
    have bO : ∀ O, Below A0.heap.size A0 (Y.alloc O) := fun O => bY0.alloc bY0.size O
    have s0 := bY0.size
    obtain ⟨Z, g1, g2⟩ := rt_beg (W := W) (C := C) (Y := Y.alloc (.cells #[.slice none 0 0, .slice none 0 0, .slice none 0 0, .string ⟨#[]⟩, .string ⟨#[]⟩, .slice none 0 0, .slice none 0 0] 33)) (a' := a') (n' := n') (c' := c') (O := O) (⟨#[98]⟩ ++ tx) (FF _ (bO _)).1 (FF _ (bO _)).2.1 (FF _ (bO _)).2.2.1 (q := Y.heap.size) (heap_alloc_new _ _) (by omega) ((o1.below ((Below.refl _ Y).alloc (Nat.le_refl _) _)).mono (by show W.heap.size ≤ A0.heap.size; omega))
    exact ⟨(FF Y bY0).2.2.2.1, fun O => (FF _ (bO O)).2.2.2.1, Z, g1, O, g2, bn_beg o2 o3⟩
  have H1 : Hid (∀ Y a' n' c', OuL A1.drew.heap.size 10 Y (.slice a' n' c') → Below A1.drew.heap.size A1.drew Y → Y.cell? ⟨W.heap.size, 7, none⟩ = some (.string tx) ∧ ∃ Z, (stR (.pointer (some ⟨W.heap.size + 2, 0, none⟩)) (.agg #[.slice a' n' c', .slice none 0 0, .slice none 0 0, .string ⟨#[97, 110, 121]⟩, .string (⟨#[98]⟩ ++ tx), .slice none 0 0, .slice none 0 0])).run Tryd.prog Y = .ok () Z ∧ Hid (∃ O, Rt W C (W.heap.size + 2) (.slice a' n' c') (.slice none 0 0) (.slice none 0 0) (.slice none 0 0) (.slice none 0 0) [] (beg O (⟨#[98]⟩ ++ tx)) Z ∧ Bn (beg O (⟨#[98]⟩ ++ tx)))) := by
    rintro Y a' n' c' ⟨O, o1, o2, o3⟩ bY
    have s1 : A1.drew.heap.size = W.heap.size + 3 := z1
    have bY0 : Below A0.heap.size A0 Y := d1.trans (bY.mono (by omega))
    obtain ⟨Z, g1, g2⟩ := rt_beg (W := W) (C := C) (Y := Y) (a' := a') (n' := n') (c' := c') (O := O) (⟨#[98]⟩ ++ tx) (FF _ bY0).1 (FF _ bY0).2.1 (FF _ bY0).2.2.1 (q := W.heap.size + 2) ((bY.block _ (by omega)).trans w1) (by omega) (o1.mono (by omega))
    exact ⟨(FF Y bY0).2.2.2.1, Z, g1, O, g2, bn_beg o2 o3⟩
  have HZ0 : Hid (A0.heap.size = W.heap.size + 2) := z0
  have z0' : A0.heap.size = W.heap.size + 2 := z0
  clear z0 z1 b0 x0 r0 b01 w1 d0 d1 FF
  go_enter Tryd.func5, Tryd.ntmps5
  go_upto_region 1 with fail
  rename_i K2 h2
  have HK2 : Hid (∀ q w, Code.wp Tryd.prog (tlF Tryd.f5 2) (bodyPost Tryd.prog Tryd.f5 (RiP W)) q w → K2 q w) := h2
  clear h2
  go_region_law (first
    | (refine step_outs rfl 19 rfl (.agg C) (by simp [Act.eval, Act.put]) ?_; refine Calls.mono CO0.out ?_; rintro en Y ⟨a', n', c', rfl, ol, bY⟩; obtain ⟨y1, y2, Z, sZ, HZ⟩ := H0.out Y a' n' c' ol bY; clear ol bY; refine ⟨_, rfl, ?_⟩)
    | (refine step_outs rfl 19 rfl (.agg C) (by simp [Act.eval, Act.put]) ?_; refine Calls.mono CO1.out ?_; rintro en Y ⟨a', n', c', rfl, ol, bY⟩; obtain ⟨y1, Z, sZ, HZ⟩ := H1.out Y a' n' c' ol bY; clear ol bY; refine ⟨_, rfl, ?_⟩))
  all_goals go_wp2_with fail
  all_goals obtain ⟨O, g2, g3⟩ := HZ.out
  all_goals refine HK2.out _ _ (right2 W C _ _ _ (beg O _) tx sd HS.out.1.sd oar lar car ar okk lks ckk ks ?_ ?_ ?_ ?_ HS.out.1.ks HS.out.2.2.1 HS.out.1.ar HS.out.2.1 oso lso cso so ?_ HS.out.1.so HS.out.2.2.2.1 HS.out.1.sb HS.out.1.tx HS.out.1.tb oip lip cip ip ?_ HS.out.1.ip HS.out.2.2.2.2 HS.out.1.ib _ g2 g3 rfl rfl)
  all_goals (rw [HC.out]; rfl)
end
end Go.Proofs.YtceclpabdfncoaaDoor.Re
