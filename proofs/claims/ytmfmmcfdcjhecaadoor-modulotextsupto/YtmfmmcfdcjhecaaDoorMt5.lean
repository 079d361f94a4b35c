/- ModuloTexts: the walk. -/
import Derived.Test.YtmfmmcfdcjhecaaDoorMt4
import Derived.Test.YtmfmmcfdcjhecaaDoorMtS
namespace Go.Proofs.YtmfmmcfdcjhecaaDoor
open Go.RowKit Go.Proofs.YtmfmmcfdcjhecaaDoor.Sha
/-- What holds whatever was done. -/
structure Mst (s : List Nat) (w W : World) : Prop where
  bel : Below w.heap.size w W
  row : W.heap[w.heap.size]? = some (.cells (bs s) 23 (0, 0))
  tx : Tx W
  tb : Tb W
  tr : Tr W
theorem Mst.below {s : List Nat} {w W W' : World} (h : Mst s w W) (b : Below W.heap.size W W') : Mst s w W' :=
  ⟨h.bel.trans (b.mono h.bel.size), (b.block _ (Array.getElem?_eq_some_iff.1 h.row).1).trans h.row, h.tx.below b h.tx.sz, h.tb.below b h.tb.sz, h.tr.below b h.tb.sz⟩
theorem eq26 (w : World) (a : List Nat) (ha : a.length = 20) : (Op.equalIn 10000 26 (.agg (bs a)) (.agg (bs a))).run Tryd.prog w = .ok true w := by
  have := run_equalIn_bs (P := Tryd.prog) w 9998 Tryd.underlying26 Tryd.underlying5 size5 a a ha ha
  simpa using this
set_option maxRecDepth 100000 in
set_option maxHeartbeats 1000000 in
theorem mt_any (s : List Nat) (hl : s.length = 32) (hb : Byt s) (u r : ByteArray) (hu : u.size ≤ 1099511627776) (hr : r.size ≤ 1099511627776) (w : World) (hx : Tx w) (ht : Tb w) (htr : Tr w) :
    Calls Tryd.prog 3 #[.agg (bs s), .string u, .string r] w fun e w' => e = .returned (.bool true) ∧ Below w.heap.size w w' := by
  obtain ⟨W0, hW0⟩ : ∃ W0, w.alloc (.cells (bs s) 23) = W0 := ⟨_, rfl⟩
  have bel : Below w.heap.size w W0 := by rw [← hW0]; exact (Below.refl _ w).alloc (Nat.le_refl _) _
  have HM : Hid (Mst s w W0.drew) := ⟨⟨bel.os, bel.tape, bel.output, bel.size, bel.block⟩, by rw [← hW0]; exact heap_alloc_new w _, hx.below ⟨bel.os, bel.tape, bel.output, bel.size, bel.block⟩ hx.sz, ht.below ⟨bel.os, bel.tape, bel.output, bel.size, bel.block⟩ ht.sz, htr.below (w' := W0.drew) ⟨bel.os, bel.tape, bel.output, bel.size, bel.block⟩ ht.sz⟩
  have HW0 : Hid (w.alloc (.cells (bs s) 23) = W0) := hW0
  obtain ⟨F, hF⟩ : ∃ F, F = Big.fold (sha (bl (scr ++ str (hexL s) ++ col ++ u))) := ⟨_, rfl⟩
  obtain ⟨K, hK⟩ : ∃ K, K = str (hexL s) ++ bang ++ u := ⟨_, rfl⟩
  obtain ⟨D, hD⟩ : ∃ D, D = sls ++ str (b32L (sha (bl (std ++ r ++ col ++ u)))) := ⟨_, rfl⟩
  have hFl : F.length = 20 := by rw [hF]; exact fold_len _
  have c4 : Hid (∀ W, Mst s w W → Calls Tryd.prog 4 #[.agg (bs s), .string u] W fun e w' => e = .returned (.string K) ∧ Mst s w w') := fun W h => by rw [hK]; exact (keyC_any s hl hb u hu W h.tx).mono fun e w' ⟨a, b⟩ => ⟨a, h.below b⟩
  have c5 : Hid (∀ W, Mst s w W → Calls Tryd.prog 5 #[.agg (bs s), .string u] W fun e w' => e = .returned (.string K) ∧ Mst s w w') := fun W h => by rw [hK]; exact (keyR_any s hl hb u hu W).mono fun e w' ⟨a, b⟩ => ⟨a, h.below b⟩
  have c6 : Hid (∀ W, Mst s w W → Calls Tryd.prog 6 #[.agg (bs s), .string u] W fun e w' => e = .returned (.agg (bs F)) ∧ Mst s w w') := fun W h => by rw [hF]; exact (scrC_any s hl hb u hu W h.tx h.tb).mono fun e w' ⟨a, b⟩ => ⟨a, h.below b⟩
  have c7 : Hid (∀ W, Mst s w W → Calls Tryd.prog 7 #[.agg (bs s), .string u] W fun e w' => e = .returned (.agg (bs F)) ∧ Mst s w w') := fun W h => by rw [hF]; exact (scrR_any s hl hb u hu W h.tr h.tb.sz).mono fun e w' ⟨a, b⟩ => ⟨a, h.below b⟩
  have c8 : Hid (∀ W, Mst s w W → Calls Tryd.prog 8 #[.string r, .string u] W fun e w' => e = .returned (.string D) ∧ Mst s w w') := fun W h => by rw [hD]; exact (stdC_any r u hr hu W h.tx h.tb).mono fun e w' ⟨a, b⟩ => ⟨a, h.below b⟩
  have c9 : Hid (∀ W, Mst s w W → Calls Tryd.prog 9 #[.string r, .string u] W fun e w' => e = .returned (.string D) ∧ Mst s w w') := fun W h => by rw [hD]; exact (stdR_any r u hr hu W h.tr h.tb.sz).mono fun e w' ⟨a, b⟩ => ⟨a, h.below b⟩
  have cl : Hid (∀ W, Mst s w W → (Instr.loadAt 23 (.pointer (some ⟨w.heap.size, 0, none⟩))).run Tryd.prog W = .ok (.agg (bs s)) W) := fun W h => run_ld23 W w.heap.size s h.row hl
  clear hF hK hD hW0 bel hx ht htr hb
  go_enter Tryd.func3, Tryd.ntmps3
  go_wp2_with fail
  refine wp_region_vals (ops := reg1) (V := V1 s F u r K D) (S := Mst s w) (by kernel_rfl) (fun i o ho => (okR_at okR1 ho).1) (fun i j o oj d ho hj q1 q2 => (okR_at okR1 ho).2.2 j oj d hj q1 q2) (fun i o d ho q => (okR_at okR1 ho).2.1 d q) (step1 _ w.heap.size s F u r K D _ _ rfl rfl rfl c4.out c5.out c6.out c7.out c8.out c9.out cl.out (fun W => eq26 W F hFl)) (by rw [HW0.out]; exact HM.out) (fun wE hE => ?_)
  rw [put1]
  dsimp only [V1]
  have HB : Hid (Below w.heap.size w wE) := hE.bel
  clear hE
  go_wp2
  go_ret
  exact ⟨rfl, HB.out⟩
end Go.Proofs.YtmfmmcfdcjhecaaDoor
