/- DigestMacs' walk, whole. -/
import Derived.Test.YtkppejaigodgiacDoorMacX
namespace Go.Proofs.YtkppejaigodgiacDoor.Macs
open Go.RowKit Go.Proofs.YtkppejaigodgiacDoor.Sha
attribute [local go_sem ↓] toSl to25l to28s
set_option maxRecDepth 100000 in
set_option maxHeartbeats 3200000 in
theorem macs_any (key d : List Nat) (hkb : Byt key) (hdb : Byt d) (hkl : key.length ≤ 140737488351232) (hdl : d.length ≤ 140737488351232) (kv dv : Value) (w : World) (ht : Tb w) (hr : Tr w) (hk : YtkppejaigodgiacDoor.Byl kv key w) (hd : YtkppejaigodgiacDoor.Byl dv d w) :
    Calls Tryd.prog 3 #[kv, dv] w fun e w' => e = .returned (.bool true) ∧ Below w.heap.size w w' := by
  obtain ⟨ko, kc, rfl, _, _, _⟩ := hk.form
  obtain ⟨dO, dc, rfl, _, _, _⟩ := hd.form
  have P := Big.padded_any key hkl _ w hk
  have HT : Hid (Tb w) := ht
  have HR : Hid (Tr w) := hr
  have HK : Hid (YtkppejaigodgiacDoor.Byl (.slice ko key.length kc) key w) := hk
  have HD : Hid (YtkppejaigodgiacDoor.Byl (.slice dO d.length dc) d w) := hd
  clear ht hr hk hd
  go_enter Tryd.func3, Tryd.ntmps3
  go_wp2_with fail
  refine P.mono ?_
  rintro e W1 ⟨x, rfl, b1, ho⟩
  obtain ⟨ga, ca, rfl, hga1, hga2, hca1, hca2, hFa⟩ := fst_own ho (by omega)
  go_wp2_with fail
  refine (Big.padded_any d hdl _ W1 (HD.out.below b1)).mono ?_
  rintro e W2 ⟨y, rfl, b2, ho2⟩
  obtain ⟨gb, cb, rfl, hgb1, hgb2, hcb1, hcb2, hFb⟩ := fst_own ho2 (by omega)
  have b12 : Below w.heap.size w W2 := b1.trans (b2.mono b1.size)
  have S2 : Hid (St key d (key ++ marks) (d ++ marks) w.heap.size ga gb (.slice ko key.length kc) (.slice dO d.length dc) w W2) :=
    ⟨b12, HT.out.below b12 HT.out.sz, HR.out.below b12 HT.out.sz, HK.out.below b12, HD.out.below b12, hFa.keep (b2.block ga hga2), hFb, Nat.lt_of_lt_of_le hga2 b2.size, hgb2, HT.out.sz, b12.size⟩
  have HGa : Hid (w.heap.size ≤ ga) := hga1
  have HGb : Hid (w.heap.size ≤ gb) := by have := b1.size; show _ ≤ _; omega
  have HNe : Hid (ga ≠ gb) := by show _ ≠ _; omega
  have hca : key.length ≤ ca := by omega
  have hcb : d.length ≤ cb := by omega
  clear b1 b2 b12 ho ho2 hFa hFb hga1 hga2 hgb1 hgb2 P
  have hcutA : ∀ W, (slR (.slice (some ⟨ga, 0, none⟩) (key.length + 8) ca) none (some (.int .i64 (key.length : Int))) none).run Tryd.prog W = .ok (.slice (some ⟨ga, 0, none⟩) key.length ca) W := fun W => by
    have := run_cut_h W (some ⟨ga, 0, none⟩) (key.length + 8) ca key.length hca
    rw [sliced_h] at this
    exact this
  have hcutB : ∀ W, (slR (.slice (some ⟨gb, 0, none⟩) (d.length + 8) cb) none (some (.int .i64 (d.length : Int))) none).run Tryd.prog W = .ok (.slice (some ⟨gb, 0, none⟩) d.length cb) W := fun W => by
    have := run_cut_h W (some ⟨gb, 0, none⟩) (d.length + 8) cb d.length hcb
    rw [sliced_h] at this
    exact this
  obtain ⟨M, hM⟩ : ∃ M, M = mac key d := ⟨_, rfl⟩
  have hMl : M.length = 32 := by rw [hM]; exact mac_len _ _
  have HC : Hid (∀ W', Below W2.heap.size W2 W' → Calls Tryd.prog 6 #[.slice (some ⟨ga, 0, none⟩) key.length ca, .slice (some ⟨gb, 0, none⟩) d.length cb] W' fun e w' => e = .returned (.agg (bs M)) ∧ Below W'.heap.size W' w') := fun W' hb' => by
    have s := S2.out.below hb'
    have y1 := fst_byl (n := key.length) (c := ca) s.fa (by simp) hca hca2
    have y2 := fst_byl (n := d.length) (c := cb) s.fb (by simp) hcb hcb2
    rw [List.take_left] at y1 y2
    rw [hM]
    exact macC_tb key d _ _ hkb hdb hkl hdl W' s.tb y1 y2
  have hstB : ∀ W : World, (storeR 25 (.pointer (some ⟨W.heap.size, 0, none⟩)) (.agg (bs M))).run Tryd.prog (W.alloc (.cells #[Value.int IntKind.u8 0, Value.int IntKind.u8 0, Value.int IntKind.u8 0, Value.int IntKind.u8 0, Value.int IntKind.u8 0, Value.int IntKind.u8 0, Value.int IntKind.u8 0, Value.int IntKind.u8 0, Value.int IntKind.u8 0, Value.int IntKind.u8 0, Value.int IntKind.u8 0, Value.int IntKind.u8 0, Value.int IntKind.u8 0, Value.int IntKind.u8 0, Value.int IntKind.u8 0, Value.int IntKind.u8 0, Value.int IntKind.u8 0, Value.int IntKind.u8 0, Value.int IntKind.u8 0, Value.int IntKind.u8 0, Value.int IntKind.u8 0, Value.int IntKind.u8 0, Value.int IntKind.u8 0, Value.int IntKind.u8 0, Value.int IntKind.u8 0, Value.int IntKind.u8 0, Value.int IntKind.u8 0, Value.int IntKind.u8 0, Value.int IntKind.u8 0, Value.int IntKind.u8 0, Value.int IntKind.u8 0, Value.int IntKind.u8 0] 25)) = .ok () ((W.alloc (.cells #[Value.int IntKind.u8 0, Value.int IntKind.u8 0, Value.int IntKind.u8 0, Value.int IntKind.u8 0, Value.int IntKind.u8 0, Value.int IntKind.u8 0, Value.int IntKind.u8 0, Value.int IntKind.u8 0, Value.int IntKind.u8 0, Value.int IntKind.u8 0, Value.int IntKind.u8 0, Value.int IntKind.u8 0, Value.int IntKind.u8 0, Value.int IntKind.u8 0, Value.int IntKind.u8 0, Value.int IntKind.u8 0, Value.int IntKind.u8 0, Value.int IntKind.u8 0, Value.int IntKind.u8 0, Value.int IntKind.u8 0, Value.int IntKind.u8 0, Value.int IntKind.u8 0, Value.int IntKind.u8 0, Value.int IntKind.u8 0, Value.int IntKind.u8 0, Value.int IntKind.u8 0, Value.int IntKind.u8 0, Value.int IntKind.u8 0, Value.int IntKind.u8 0, Value.int IntKind.u8 0, Value.int IntKind.u8 0, Value.int IntKind.u8 0] 25)).setRow W.heap.size (bs M)) := fun W => run_store25 _ _ _ M (heap_alloc_new _ _) rfl hMl
  have HM : Hid (M = mac key d) := hM
  clear hM
  go_wp2_with fail
  go_region_with (first
    | (go_at_call 6; refine (HC.out _ (by exact ((Below.refl _ W2).drew).alloc (Nat.le_refl _) _)).mono ?_; rintro e w3 ⟨rfl, hb3⟩; have hr3 : Hid (w3.heap[W2.heap.size]? = some (.cells #[Value.int IntKind.u8 0, Value.int IntKind.u8 0, Value.int IntKind.u8 0, Value.int IntKind.u8 0, Value.int IntKind.u8 0, Value.int IntKind.u8 0, Value.int IntKind.u8 0, Value.int IntKind.u8 0, Value.int IntKind.u8 0, Value.int IntKind.u8 0, Value.int IntKind.u8 0, Value.int IntKind.u8 0, Value.int IntKind.u8 0, Value.int IntKind.u8 0, Value.int IntKind.u8 0, Value.int IntKind.u8 0, Value.int IntKind.u8 0, Value.int IntKind.u8 0, Value.int IntKind.u8 0, Value.int IntKind.u8 0, Value.int IntKind.u8 0, Value.int IntKind.u8 0, Value.int IntKind.u8 0, Value.int IntKind.u8 0, Value.int IntKind.u8 0, Value.int IntKind.u8 0, Value.int IntKind.u8 0, Value.int IntKind.u8 0, Value.int IntKind.u8 0, Value.int IntKind.u8 0, Value.int IntKind.u8 0, Value.int IntKind.u8 0] 25 (0, 0))) := (hb3.block _ (by simp)).trans (heap_alloc_new W2.drew _); have hstA := run_store25 w3 W2.heap.size _ M hr3.out rfl hMl)
    | (go_at_call 6; refine (HC.out _ (by exact (Below.refl _ W2).drew)).mono ?_; rintro e w3 ⟨rfl, hb3⟩))
  · rename_i K hKK
    have r3 : Hid ((World.setRow (World.alloc w3 (.cells #[Value.int IntKind.u8 0, Value.int IntKind.u8 0, Value.int IntKind.u8 0, Value.int IntKind.u8 0, Value.int IntKind.u8 0, Value.int IntKind.u8 0, Value.int IntKind.u8 0, Value.int IntKind.u8 0, Value.int IntKind.u8 0, Value.int IntKind.u8 0, Value.int IntKind.u8 0, Value.int IntKind.u8 0, Value.int IntKind.u8 0, Value.int IntKind.u8 0, Value.int IntKind.u8 0, Value.int IntKind.u8 0, Value.int IntKind.u8 0, Value.int IntKind.u8 0, Value.int IntKind.u8 0, Value.int IntKind.u8 0, Value.int IntKind.u8 0, Value.int IntKind.u8 0, Value.int IntKind.u8 0, Value.int IntKind.u8 0, Value.int IntKind.u8 0, Value.int IntKind.u8 0, Value.int IntKind.u8 0, Value.int IntKind.u8 0, Value.int IntKind.u8 0, Value.int IntKind.u8 0, Value.int IntKind.u8 0, Value.int IntKind.u8 0] 25)) w3.heap.size (bs M)).heap[w3.heap.size]? = some (.cells (bs M) 25 (0, 0))) := setRow_heap _ _ _ _ _ _ (heap_alloc_new _ _)
    have bl : Below W2.heap.size W2 (World.setRow (World.alloc w3 (.cells #[Value.int IntKind.u8 0, Value.int IntKind.u8 0, Value.int IntKind.u8 0, Value.int IntKind.u8 0, Value.int IntKind.u8 0, Value.int IntKind.u8 0, Value.int IntKind.u8 0, Value.int IntKind.u8 0, Value.int IntKind.u8 0, Value.int IntKind.u8 0, Value.int IntKind.u8 0, Value.int IntKind.u8 0, Value.int IntKind.u8 0, Value.int IntKind.u8 0, Value.int IntKind.u8 0, Value.int IntKind.u8 0, Value.int IntKind.u8 0, Value.int IntKind.u8 0, Value.int IntKind.u8 0, Value.int IntKind.u8 0, Value.int IntKind.u8 0, Value.int IntKind.u8 0, Value.int IntKind.u8 0, Value.int IntKind.u8 0, Value.int IntKind.u8 0, Value.int IntKind.u8 0, Value.int IntKind.u8 0, Value.int IntKind.u8 0, Value.int IntKind.u8 0, Value.int IntKind.u8 0, Value.int IntKind.u8 0, Value.int IntKind.u8 0] 25)) w3.heap.size (bs M)) := below_setRow (((Below.refl _ W2).drew.trans (hb3.mono (Nat.le_refl _))).alloc hb3.size _) hb3.size _
    have S4 := S2.out.below bl
    refine hKK _ _ ?_
    exact tailX key d hkb hdb hkl hdl ko dO kc dc ga gb ca cb w3.heap.size M HM _ _ _ _ _ _ _ _ _ _ _ _ _ _ _ _ _ _ _ _ _ _ _ _ _ _ _ _ _ _ _ _ _ _ _ _ _ _ _ _ _ _ _ _ _ _ _ _ _ _ _ _ _ _ _ _ _ _ _ _ _ _ _ _ _ _ _ _ _ _ _ _ _ _ _ _ _ _ _ _ w _ hca1 hca2 hcb1 hcb2 HGa HGb HNe HK HD S4 r3.out _ (fun w' h => ⟨rfl, h⟩)
  · rename_i K hKK
    have r4 : Hid ((World.setRow w3 W2.heap.size (bs M)).heap[W2.heap.size]? = some (.cells (bs M) 25 (0, 0))) := setRow_heap _ _ _ _ _ _ hr3.out
    have bl : Below W2.heap.size W2 (World.setRow w3 W2.heap.size (bs M)) := below_setRow ((((Below.refl _ W2).drew).alloc (Nat.le_refl _) _).trans (hb3.mono (by simp))) (Nat.le_refl _) _
    have S4 := S2.out.below bl
    refine hKK _ _ ?_
    exact tailX key d hkb hdb hkl hdl ko dO kc dc ga gb ca cb W2.heap.size M HM _ _ _ _ _ _ _ _ _ _ _ _ _ _ _ _ _ _ _ _ _ _ _ _ _ _ _ _ _ _ _ _ _ _ _ _ _ _ _ _ _ _ _ _ _ _ _ _ _ _ _ _ _ _ _ _ _ _ _ _ _ _ _ _ _ _ _ _ _ _ _ _ _ _ _ _ _ _ _ _ w _ hca1 hca2 hcb1 hcb2 HGa HGb HNe HK HD S4 r4.out _ (fun w' h => ⟨rfl, h⟩)
end Go.Proofs.YtkppejaigodgiacDoor.Macs
