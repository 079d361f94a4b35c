/- DigestSums' walk. -/
import Derived.Test.YtkppejaigodgiabDoorShTb
namespace Go.Proofs.YtkppejaigodgiabDoor.Sums
open Go.RowKit Go.Proofs.YtkppejaigodgiabDoor.Sha
theorem sliced_h (g n c : Nat) : sliced (some ⟨g, 0, none⟩) 0 n c 1 = .slice (some ⟨g, 0, none⟩) n c := by simp [sliced, Addr.add]
/-- What holds at each moment. -/
structure St (d : List Nat) (G g : Nat) (v : Value) (w W : World) : Prop where
  bel : Below G w W
  tb : Tb W
  tr : Tr W
  dat : YtkppejaigodgiabDoor.Byl v d W
  fs : Fst g (d ++ marks) W
  gs : g < W.heap.size
  hG : 6 < G
  hs : G ≤ W.heap.size
theorem St.below {d : List Nat} {G g : Nat} {v : Value} {w W W' : World} (h : St d G g v w W) (b : Below W.heap.size W W') : St d G g v w W' :=
  ⟨h.bel.trans (b.mono h.hs), h.tb.below b h.tb.sz, h.tr.below b h.tb.sz, h.dat.below b, h.fs.keep (b.block g h.gs), Nat.lt_of_lt_of_le h.gs b.size, h.hG, Nat.le_trans h.hs b.size⟩
theorem St.own {d : List Nat} {G g : Nat} {v : Value} {w W : World} (h : St d G g v w W) {c : Nat} (hc : d.length ≤ c) (hm : c ≤ maxLen) : YtkppejaigodgiabDoor.Byl (.slice (some ⟨g, 0, none⟩) d.length c) d W := by
  have := h.fs.take (n := d.length)
  rw [List.take_left] at this
  exact this.byl hc hm
theorem sx_full {d : List Nat} {G g : Nat} {v : Value} {w W : World} {c : Nat} (hc : d.length + 8 ≤ c) (hm : c ≤ maxLen) (h : St d G g v w W) : YtkppejaigodgiabDoor.Byl (.slice (some ⟨g, 0, none⟩) (d.length + 8) c) (d ++ marks) W := by
  have hl : (d ++ marks).length = d.length + 8 := by simp [marks]
  have := h.fs.byl (c := c) (by omega) hm
  rw [hl] at this
  exact this
/-- Behind the turning. -/
structure St2 (e : List Nat) (G g : Nat) (w W : World) : Prop where
  bel : Below G w W
  tb : Tb W
  tr : Tr W
  fs : Fst g e W
  gs : g < W.heap.size
  hG : 6 < G
  hs : G ≤ W.heap.size
theorem St2.below {e : List Nat} {G g : Nat} {w W W' : World} (h : St2 e G g w W) (b : Below W.heap.size W W') : St2 e G g w W' :=
  ⟨h.bel.trans (b.mono h.hs), h.tb.below b h.tb.sz, h.tr.below b h.tb.sz, h.fs.keep (b.block g h.gs), Nat.lt_of_lt_of_le h.gs b.size, h.hG, Nat.le_trans h.hs b.size⟩
theorem St2.own {e : List Nat} {G g n : Nat} {w W : World} (h : St2 e G g w W) {c : Nat} (hn : e.length = n) (hc : n ≤ c) (hm : c ≤ maxLen) : YtkppejaigodgiabDoor.Byl (.slice (some ⟨g, 0, none⟩) n c) e W := by
  subst hn
  exact h.fs.byl hc hm
/-- And both sums in their blocks. -/
structure StR (d S : List Nat) (G g A B : Nat) (v : Value) (w W : World) : Prop where
  st : St d G g v w W
  rA : W.heap[A]? = some (.cells (bs S) 24 (0, 0))
  rB : W.heap[B]? = some (.cells (bs S) 24 (0, 0))
theorem StR.below {d S : List Nat} {G g A B : Nat} {v : Value} {w W W' : World} (h : StR d S G g A B v w W) (b : Below W.heap.size W W') : StR d S G g A B v w W' :=
  ⟨h.st.below b, (b.block A (Array.getElem?_eq_some_iff.1 h.rA).1).trans h.rA, (b.block B (Array.getElem?_eq_some_iff.1 h.rB).1).trans h.rB⟩
theorem eq24 (w : World) (a : List Nat) (ha : a.length = 32) : (Op.equalIn 10000 24 (.agg (bs a)) (.agg (bs a))).run Tryd.prog w = .ok true w := by
  have := run_equalIn_bs (P := Tryd.prog) w 9998 Tryd.underlying24 Tryd.underlying5 size5 a a ha ha
  simpa using this
theorem eq51 (w : World) (a : List Nat) (ha : a.length = 20) : (Op.equalIn 10000 51 (.agg (bs a)) (.agg (bs a))).run Tryd.prog w = .ok true w := by
  have := run_equalIn_bs (P := Tryd.prog) w 9998 Tryd.underlying51 Tryd.underlying5 size5 a a ha ha
  simpa using this
def loadR (ty : Nat) (v : Value) : Sem Value := Instr.loadAt ty v
theorem to24l (v : Value) : Instr.loadAt 24 v = loadR 24 v := rfl
theorem run_loadR24 (w : World) (g : Nat) (l : List Nat) (hg : w.heap[g]? = some (.cells (bs l) 24 (0, 0))) (hl : l.length = 32) : (loadR 24 (.pointer (some ⟨g, 0, none⟩))).run Tryd.prog w = .ok (.agg (bs l)) w := by
  unfold loadR
  simp only [Instr.loadAt, Instr.sureAddr, Sem.run_bind, Sem.run_pure, Result.andThen_ok, run_loadVar_row w g 24 24 (bs l) (0, 0) _ hg Tryd.underlying24 rfl (by rw [size24', bs_size, hl])]
attribute [local go_sem ↓] toSl to24l
set_option maxRecDepth 100000 in
set_option maxHeartbeats 3200000 in
theorem sums_any (d : List Nat) (hdb : Byt d) (hdl : d.length ≤ 140737488351232) (v : Value) (w : World) (ht : Tb w) (hr : Tr w) (hv : YtkppejaigodgiabDoor.Byl v d w) :
    Calls Tryd.prog 8 #[v] w fun e w' => e = .returned (.bool true) ∧ Below w.heap.size w w' := by
  have P := Big.padded_any d hdl v w hv
  have hd2 : d.length ≤ 1152921504606846976 := by omega
  have HT : Hid (Tb w) := ht
  have HR : Hid (Tr w) := hr
  obtain ⟨S, hS⟩ : ∃ S, S = sha d := ⟨_, rfl⟩
  have hSl : S.length = 32 := by rw [hS]; exact sha_len d
  have hSb : Byt S := by rw [hS]; exact sha_byt d
  have HS : Hid (S = sha d) := hS
  clear hS
  obtain ⟨d', hd'⟩ : ∃ l, l = d.map (fun x => 255 - x) := ⟨_, rfl⟩
  have HD' : Hid (d' = d.map (fun x => 255 - x)) := hd'
  have hd'n : d'.length = d.length := by rw [hd', List.length_map]
  have hd'l : d'.length ≤ 140737488351232 := by omega
  have hd'l2 : d'.length ≤ 1152921504606846976 := by omega
  have hd'b : Byt d' := fun x hx => by
    rw [hd'] at hx
    obtain ⟨y, _, rfl⟩ := List.mem_map.1 hx
    omega
  clear hd'
  obtain ⟨o, c, rfl, _, _, _⟩ := hv.form
  have HD : Hid (YtkppejaigodgiabDoor.Byl (.slice o d.length c) d w) := hv
  clear ht hv hr
  go_enter Tryd.func8, Tryd.ntmps8
  go_wp2_with fail
  refine P.mono ?_
  rintro e W1 ⟨x, rfl, b1, ho⟩
  obtain ⟨g, cx, rfl, hg1, hg2, hc1, hc2, hF⟩ := fst_own ho (by omega)
  have S1 : Hid (St d w.heap.size g (.slice o d.length c) w W1) := ⟨b1, HT.out.below b1 HT.out.sz, HR.out.below b1 HT.out.sz, HD.out.below b1, hF, hg2, HT.out.sz, b1.size⟩
  have HG : Hid (w.heap.size ≤ g) := hg1
  have hcx : d.length ≤ cx := by omega
  clear b1 ho hF hg1 hg2 P
  have hcut : ∀ W, (slR (.slice (some ⟨g, 0, none⟩) (d.length + 8) cx) none (some (.int .i64 (d.length : Int))) none).run Tryd.prog W = .ok (.slice (some ⟨g, 0, none⟩) d.length cx) W := fun W => by
    have := run_cut_h W (some ⟨g, 0, none⟩) (d.length + 8) cx d.length hcx
    rw [sliced_h] at this
    exact this
  go_wp2_with fail
  refine (of_tb d _ hd2 hdb W1 S1.out.tb (S1.out.own hcx hc2)).mono ?_
  rw [← HS.out]
  rintro e W2 ⟨rfl, b2⟩
  have S2 : Hid (St d w.heap.size g (.slice o d.length c) w W2) := S1.out.below b2
  clear b2 S1
  go_wp2_with (refine wpList_store_row rfl 24 _ _ rfl _ _ rfl rfl 24 _ (by exact heap_alloc_new _ _) (by rw [size24', bs_size, hSl]) (by rw [bs_size, hSl]; rfl) (bs_one _) ?_)
  generalize hW3 : (W2.alloc (Obj.cells _ 24)).setRow W2.heap.size (bs S) = W3
  have row3 : Hid (W3.heap[W2.heap.size]? = some (.cells (bs S) 24 (0, 0))) := by rw [← hW3]; exact setRow_heap _ _ _ _ _ _ (heap_alloc_new _ _)
  have b3 : Below W2.heap.size W2 W3 := by rw [← hW3]; exact below_setRow ((Below.refl _ W2).alloc (Nat.le_refl _) _) (Nat.le_refl _) _
  have s3 : Hid (W2.heap.size < W3.heap.size) := by rw [← hW3]; show _ < _; simp
  have S3 : Hid (St d w.heap.size g (.slice o d.length c) w W3) := S2.out.below b3
  have hA : Hid (w.heap.size ≤ W2.heap.size) := S2.out.hs
  obtain ⟨A, hAA⟩ : ∃ A, A = W2.heap.size := ⟨_, rfl⟩
  rw [← hAA] at row3 s3 hA ⊢
  clear hW3 b3 S2 hAA
  go_wp2_with fail
  refine (ofR_tb d _ hdl hdb W3 S3.out.tr S3.out.dat).mono ?_
  rw [← HS.out]
  rintro e W4 ⟨rfl, b4⟩
  have S4 : Hid (St d w.heap.size g (.slice o d.length c) w W4) := S3.out.below b4
  have row4 : Hid (W4.heap[A]? = some (.cells (bs S) 24 (0, 0))) := (b4.block A s3.out).trans row3.out
  have s4 : Hid (A < W4.heap.size) := Nat.lt_of_lt_of_le s3.out b4.size
  clear b4 S3 row3 s3
  go_wp2_with (refine wpList_store_row rfl 24 _ _ rfl _ _ rfl rfl 24 _ (by exact heap_alloc_new _ _) (by rw [size24', bs_size, hSl]) (by rw [bs_size, hSl]; rfl) (bs_one _) ?_)
  generalize hW5 : (W4.alloc (Obj.cells _ 24)).setRow W4.heap.size (bs S) = W5
  have row5 : Hid (W5.heap[W4.heap.size]? = some (.cells (bs S) 24 (0, 0))) := by rw [← hW5]; exact setRow_heap _ _ _ _ _ _ (heap_alloc_new _ _)
  have b5 : Below W4.heap.size W4 W5 := by rw [← hW5]; exact below_setRow ((Below.refl _ W4).alloc (Nat.le_refl _) _) (Nat.le_refl _) _
  have T5 : Hid (StR d S w.heap.size g A W4.heap.size (.slice o d.length c) w W5) := ⟨S4.out.below b5, (b5.block A s4.out).trans row4.out, row5.out⟩
  obtain ⟨B, hB⟩ : ∃ B, B = W4.heap.size := ⟨_, rfl⟩
  rw [← hB] at T5 ⊢
  clear hW5 b5 S4 row4 row5 s4 hA hB
  obtain ⟨F, hF⟩ : ∃ F, F = Big.fold S := ⟨_, rfl⟩
  have hFl : F.length = 20 := by rw [hF]; exact Big.foldk_len _ _
  have CC : ∀ W, Calls Tryd.prog 31 #[.agg (bs S)] W fun e w' => e = .returned (.agg (bs F)) ∧ Below W.heap.size W w' := fun W => by rw [hF]; exact Big.foldC_any S hSl hSb W
  have CR : ∀ W, Calls Tryd.prog 34 #[.agg (bs S)] W fun e w' => e = .returned (.agg (bs F)) ∧ Below W.heap.size W w' := fun W => by rw [hF]; exact Big.foldR_any S hSl hSb W
  clear hF
  have hldA := fun W hg => run_loadR24 W A S hg hSl
  have hldB := fun W hg => run_loadR24 W B S hg hSl
  have hqS := fun W => eq24 W S hSl
  have hqF := fun W => eq51 W F hFl
  have hml : (d ++ marks).length ≤ 140737488355328 := by simp [marks]; omega
  go_wp2_with fail
  have T6 : Hid (StR d S w.heap.size g A B (.slice o d.length c) w W5.drew) := T5.out.below ((Below.refl _ W5).drew)
  have ra5 : W5.heap[A]? = some (.cells (bs S) 24 (0, 0)) := T5.out.rA
  have rb5 : W5.heap[B]? = some (.cells (bs S) 24 (0, 0)) := T5.out.rB
  have ra6 : W5.drew.heap[A]? = some (.cells (bs S) 24 (0, 0)) := T6.out.rA
  have rb6 : W5.drew.heap[B]? = some (.cells (bs S) 24 (0, 0)) := T6.out.rB
  clear T5
  go_region_with (first
      | (go_at_call 31; refine (CC _).mono ?_; rintro e W7 ⟨rfl, b7⟩; have T7 : Hid (StR d S w.heap.size g A B (.slice o d.length c) w W7) := T6.out.below b7; have ra7 : W7.heap[A]? = some (.cells (bs S) 24 (0, 0)) := T7.out.rA; have rb7 : W7.heap[B]? = some (.cells (bs S) 24 (0, 0)) := T7.out.rB; clear b7)
      | (go_at_call 34; refine (CR _).mono ?_; rintro e W8 ⟨rfl, b8⟩; have T8 : Hid (StR d S w.heap.size g A B (.slice o d.length c) w W8) := T7.out.below b8; clear b8)
      | (go_at_call 9; refine (Big.padded_any d hdl _ _ T8.out.st.dat).mono ?_; rintro e W9 ⟨xn, rfl, b9, on⟩; have T9 : Hid (StR d S w.heap.size g A B (.slice o d.length c) w W9) := T8.out.below b9; have Y9 : Hid (YtkppejaigodgiabDoor.Byl xn (d ++ marks) W9) := (byl_own on).1; clear b9 on)
      | (go_at_call 18; refine (Big.bytes_any (d ++ marks) (d ++ marks) hml _ _ _ (sx_full hc1 hc2 T9.out.st) Y9.out).mono ?_; rintro e W10 ⟨rfl, b10⟩; have T10 : Hid (StR d S w.heap.size g A B (.slice o d.length c) w W10) := T9.out.below b10; clear b10))
  all_goals
    have F10 : Hid (Fst g d W10) := by
      have := T10.out.st.fs.take (n := d.length)
      rw [List.take_left] at this
      exact this
    clear T6 T7 T8 T9 Y9 ra5 rb5 ra6 rb6 ra7 rb7 CC CR hldA hldB hqS hqF
    go_wp2_with fail
    refine (Big.turned_any d hdb g cx (by omega) W10 F10).mono ?_
    rintro e W12 ⟨rfl, f12, t12⟩
    have T12 : Hid (St2 d' w.heap.size g w W12) := by
      have hG := HG.out
      have s := T10.out.st
      have hs := s.hs
      have h6 := s.hG
      exact ⟨s.bel.trans (t12.below hG hs), s.tb.keep t12.size (fun j hj => t12.block j (by omega) (by omega)), s.tr.keep (fun j hj => t12.block j (by omega) (by omega)), by rw [HD'.out]; exact f12.out, Nat.lt_of_lt_of_le s.gs t12.size, s.hG, Nat.le_trans hs t12.size⟩
    clear f12 t12 F10 T10
    obtain ⟨S', hS'⟩ : ∃ S', S' = sha d' := ⟨_, rfl⟩
    have hS'l : S'.length = 32 := by rw [hS']; exact sha_len d'
    have hqS' := fun W => eq24 W S' hS'l
    go_wp2_with fail
    refine (of_tb d' _ hd'l2 hd'b W12 T12.out.tb (T12.out.own hd'n hcx hc2)).mono ?_
    rw [← hS']
    rintro e W13 ⟨rfl, b13⟩
    have T13 : Hid (St2 d' w.heap.size g w W13) := T12.out.below b13
    clear b13 T12
    go_wp2_with fail
    refine (ofR_tb d' _ hd'l hd'b W13 T13.out.tr (T13.out.own hd'n hcx hc2)).mono ?_
    rw [← hS']
    rintro e W14 ⟨rfl, b14⟩
    have T14 : Hid (St2 d' w.heap.size g w W14) := T13.out.below b14
    clear b14 T13 hS'
    go_wp2_with fail
    go_ret
    exact ⟨rfl, T14.out.bel⟩
end Go.Proofs.YtkppejaigodgiabDoor.Sums
