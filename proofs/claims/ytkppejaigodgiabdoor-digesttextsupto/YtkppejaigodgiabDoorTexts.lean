/- DigestTexts' walk. -/
import Derived.Test.YtkppejaigodgiabDoorShow
import Derived.Test.YtkppejaigodgiabDoorAux
import Derived.Deep.RegionWith
namespace Go.Proofs.YtkppejaigodgiabDoor
open Go.RowKit
theorem sliced_h (g n c : Nat) : sliced (some ⟨g, 0, none⟩) 0 n c 1 = .slice (some ⟨g, 0, none⟩) n c := by simp [sliced, Addr.add]
theorem hexC_s (s : List Nat) (hb : Byt s) (hl : s.length ≤ 1099511627776) (v : Value) (w : World) (hv : Byl v s w) (ht : Tx w) : Calls Tryd.prog 10 #[v] w fun e w' => e = .returned (.string (str (hexL s))) ∧ Below w.heap.size w w' := hexC_any s hb hl v w hv ht
theorem hexR_s (s : List Nat) (hb : Byt s) (hl : s.length ≤ 1099511627776) (v : Value) (w : World) (hv : Byl v s w) : Calls Tryd.prog 11 #[v] w fun e w' => e = .returned (.string (str (hexL s))) ∧ Below w.heap.size w w' := hexR_any s hb hl v w hv
theorem b32C_s (s : List Nat) (hb : Byt s) (hl : s.length ≤ 1099511627776) (v : Value) (w : World) (hv : Byl v s w) (ht : Tx w) : Calls Tryd.prog 12 #[v] w fun e w' => e = .returned (.string (str (b32L s))) ∧ Below w.heap.size w w' := b32C_any s hb hl v w hv ht
theorem b32R_s (s : List Nat) (hb : Byt s) (hl : s.length ≤ 1099511627776) (v : Value) (w : World) (hv : Byl v s w) : Calls Tryd.prog 13 #[v] w fun e w' => e = .returned (.string (str (b32L s))) ∧ Below w.heap.size w w' := b32R_any s hb hl v w hv
theorem b64C_s (s : List Nat) (hb : Byt s) (hl : s.length ≤ 1099511627776) (v : Value) (w : World) (hv : Byl v s w) (ht : Tx w) : Calls Tryd.prog 14 #[v] w fun e w' => e = .returned (.string (str (b64L s))) ∧ Below w.heap.size w w' := b64C_any s hb hl v w hv ht
theorem b64R_s (s : List Nat) (hb : Byt s) (hl : s.length ≤ 1099511627776) (v : Value) (w : World) (hv : Byl v s w) : Calls Tryd.prog 15 #[v] w fun e w' => e = .returned (.string (str (b64L s))) ∧ Below w.heap.size w w' := b64R_any s hb hl v w hv
/-- What holds at each moment: the data, the copy with its marks, the sum's own block, the tables. -/
structure St (d sm : List Nat) (G g : Nat) (v : Value) (w W : World) : Prop where
  bel : Below G w W
  tx : Tx W
  dat : Byl v d W
  fs : Fst g (d ++ marks) W
  row : W.heap[G]? = some (.cells (bs sm) 24 (0, 0))
  gs : g < W.heap.size
theorem St.below {d sm : List Nat} {G g : Nat} {v : Value} {w W W' : World} (h : St d sm G g v w W) (b : Below W.heap.size W W') : St d sm G g v w W' :=
  have hG : G < W.heap.size := (Array.getElem?_eq_some_iff.1 h.row).1
  ⟨h.bel.trans (b.mono (Nat.le_of_lt hG)), h.tx.below b h.tx.sz, h.dat.below b, h.fs.keep (b.block g h.gs), (b.block G hG).trans h.row, Nat.lt_of_lt_of_le h.gs b.size⟩
theorem St.own {d sm : List Nat} {G g : Nat} {v : Value} {w W : World} (h : St d sm G g v w W) {c : Nat} (hc : d.length ≤ c) (hm : c ≤ maxLen) : Byl (.slice (some ⟨g, 0, none⟩) d.length c) d W := by
  have := h.fs.take (n := d.length)
  rw [List.take_left] at this
  exact this.byl hc hm
/-- And behind the turning. -/
structure St2 (e : List Nat) (G g : Nat) (w W : World) : Prop where
  bel : Below G w W
  tx : Tx W
  fs : Fst g e W
  gs : g < W.heap.size
  hG : 2 < G
  hg : G < g
theorem St2.below {e : List Nat} {G g : Nat} {w W W' : World} (h : St2 e G g w W) (b : Below W.heap.size W W') : St2 e G g w W' :=
  ⟨h.bel.trans (b.mono (Nat.le_of_lt (Nat.lt_trans h.hg h.gs))), h.tx.below b h.tx.sz, h.fs.keep (b.block g h.gs), Nat.lt_of_lt_of_le h.gs b.size, h.hG, h.hg⟩
theorem St2.own {e : List Nat} {G g n : Nat} {w W : World} (h : St2 e G g w W) {c : Nat} (hn : e.length = n) (hc : n ≤ c) (hm : c ≤ maxLen) : Byl (.slice (some ⟨g, 0, none⟩) n c) e W := by
  subst hn
  exact h.fs.byl hc hm
theorem size24 : (Tryd.prog.info? 24).map (·.size) = some 32 := by kernel_rfl
def loadR (ty : Nat) (v : Value) : Sem Value := Instr.loadAt ty v
theorem to24l (v : Value) : Instr.loadAt 24 v = loadR 24 v := rfl
theorem run_loadR24 (w : World) (g : Nat) (l : List Nat) (hg : w.heap[g]? = some (.cells (bs l) 24 (0, 0))) (hl : l.length = 32) : (loadR 24 (.pointer (some ⟨g, 0, none⟩))).run Tryd.prog w = .ok (.agg (bs l)) w := by
  unfold loadR
  simp only [Instr.loadAt, Instr.sureAddr, Sem.run_bind, Sem.run_pure, Result.andThen_ok, run_loadVar_row w g 24 24 (bs l) (0, 0) _ hg Tryd.underlying24 rfl (by rw [size24, bs_size, hl])]
theorem showV_str (s : List Nat) (f : Int) : ∃ X, showV s f = .string X := by
  unfold showV
  split
  · exact ⟨_, rfl⟩
  · split
    · exact ⟨_, rfl⟩
    · split
      · exact ⟨_, rfl⟩
      · exact ⟨_, rfl⟩
theorem sx_full {d sm : List Nat} {G g : Nat} {v : Value} {w W : World} {c : Nat} (hc : d.length + 8 ≤ c) (hm : c ≤ maxLen) (h : St d sm G g v w W) : Byl (.slice (some ⟨g, 0, none⟩) (d.length + 8) c) (d ++ marks) W := by
  have hl : (d ++ marks).length = d.length + 8 := by simp [marks]
  have := h.fs.byl (c := c) (by omega) hm
  rw [hl] at this
  exact this
attribute [local go_sem ↓] toSl to24l
set_option maxRecDepth 100000 in
set_option maxHeartbeats 3200000 in
theorem texts_any (d : List Nat) (hdb : Byt d) (hdl : d.length ≤ 1048576) (sm : List Nat) (hsl : sm.length = 32) (hsb : Byt sm) (f : Int) (v : Value) (w : World) (ht : Tx w) (hv : Byl v d w) :
    Calls Tryd.prog 3 #[v, .agg (bs sm), .int .i64 f] w fun e w' => e = .returned (.bool true) ∧ Below w.heap.size w w' := by
  have bel0 : Below w.heap.size w (w.alloc (.cells (bs sm) 24)) := (Below.refl _ w).alloc (Nat.le_refl _) _
  have P := padded_any d hdl v (w.alloc (.cells (bs sm) 24)) (hv.below bel0)
  have hd2 : d.length ≤ 1099511627776 := by omega
  have HT : Hid (Tx w) := ht
  obtain ⟨d', hd'⟩ : ∃ l, l = d.map (fun x => 255 - x) := ⟨_, rfl⟩
  have HD' : Hid (d' = d.map (fun x => 255 - x)) := hd'
  have hd'n : d'.length = d.length := by rw [hd', List.length_map]
  have hd'l : d'.length ≤ 1099511627776 := by omega
  have hd'b : Byt d' := fun x hx => by
    rw [hd'] at hx
    obtain ⟨y, _, rfl⟩ := List.mem_map.1 hx
    omega
  clear hd'
  obtain ⟨o, c, rfl, _, _, _⟩ := hv.form
  have HD : Hid (Byl (.slice o d.length c) d w) := hv
  have HB0 : Hid (Below w.heap.size w (w.alloc (.cells (bs sm) 24))) := bel0
  clear ht hv bel0
  go_enter Tryd.func3, Tryd.ntmps3
  go_wp2_with fail
  refine P.mono ?_
  rintro e W1 ⟨x, rfl, b1, ho⟩
  obtain ⟨g, cx, rfl, hg1, hg2, hc1, hc2, hF⟩ := fst_own ho (by omega)
  have st1 : St d sm w.heap.size g (.slice o d.length c) w W1 := by
    have bel1 : Below w.heap.size w W1 := HB0.out.trans (b1.mono (by simp))
    exact ⟨bel1, HT.out.below bel1 HT.out.sz, HD.out.below bel1, hF, (b1.block _ (by simp)).trans (heap_alloc_new _ _), hg2⟩
  have HG : Hid (w.heap.size < g) := by show _ < _; simp at hg1; omega
  have hcx : d.length ≤ cx := by omega
  have S1 : Hid (St d sm w.heap.size g (.slice o d.length c) w W1) := st1
  clear b1 ho hF st1 hg1 hg2 P
  have hcut : ∀ W, (slR (.slice (some ⟨g, 0, none⟩) (d.length + 8) cx) none (some (.int .i64 (d.length : Int))) none).run Tryd.prog W = .ok (.slice (some ⟨g, 0, none⟩) d.length cx) W := fun W => by
    have := run_cut_h W (some ⟨g, 0, none⟩) (d.length + 8) cx d.length hcx
    rw [sliced_h] at this
    exact this
  go_wp2_with fail
  refine (hexC_s d hdb hd2 _ W1 (S1.out.own hcx hc2) S1.out.tx).mono ?_
  rintro e W2 ⟨rfl, b2⟩
  have S2 : Hid (St d sm w.heap.size g (.slice o d.length c) w W2) := S1.out.below b2
  clear b2 S1
  go_wp2_with fail
  refine (hexR_s d hdb hd2 _ W2 S2.out.dat).mono ?_
  rintro e W3 ⟨rfl, b3⟩
  have S3 : Hid (St d sm w.heap.size g (.slice o d.length c) w W3) := S2.out.below b3
  clear b3 S2
  go_wp2_with fail
  refine (b32C_s d hdb hd2 _ W3 (S3.out.own hcx hc2) S3.out.tx).mono ?_
  rintro e W4 ⟨rfl, b4⟩
  have S4 : Hid (St d sm w.heap.size g (.slice o d.length c) w W4) := S3.out.below b4
  clear b4 S3
  go_wp2_with fail
  refine (b32R_s d hdb hd2 _ W4 S4.out.dat).mono ?_
  rintro e W5 ⟨rfl, b5⟩
  have S5 : Hid (St d sm w.heap.size g (.slice o d.length c) w W5) := S4.out.below b5
  clear b5 S4
  go_wp2_with fail
  refine (b64C_s d hdb hd2 _ W5 (S5.out.own hcx hc2) S5.out.tx).mono ?_
  rintro e W6 ⟨rfl, b6⟩
  have S6 : Hid (St d sm w.heap.size g (.slice o d.length c) w W6) := S5.out.below b6
  clear b6 S5
  go_wp2_with fail
  refine (b64R_s d hdb hd2 _ W6 S6.out.dat).mono ?_
  rintro e W7 ⟨rfl, b7⟩
  have S7 : Hid (St d sm w.heap.size g (.slice o d.length c) w W7) := S6.out.below b7
  clear b7 S6
  obtain ⟨X, hX⟩ := showV_str sm f
  have CS : ∀ W, Tx W → Calls Tryd.prog 16 #[.agg (bs sm), .int .i64 f] W fun e w' => e = .returned (.string X) ∧ Below W.heap.size W w' := fun W h => by rw [← hX]; exact showC_any sm hsl hsb f W h
  have CR : ∀ W, Calls Tryd.prog 17 #[.agg (bs sm), .int .i64 f] W fun e w' => e = .returned (.string X) ∧ Below W.heap.size W w' := fun W => by rw [← hX]; exact showR_any sm hsl hsb f W
  have hml : (d ++ marks).length ≤ 1099511627776 := by simp [marks]; omega
  clear hX
  have hld := fun W hg => run_loadR24 W w.heap.size sm hg hsl
  go_wp2_with fail
  have hS0 : Hid (St d sm w.heap.size g (.slice o d.length c) w W7.drew) := S7.out.below ((Below.refl _ W7).drew)
  have hr0 : W7.drew.heap[w.heap.size]? = some (.cells (bs sm) 24 (0, 0)) := hS0.out.row
  have hr0' : W7.heap[w.heap.size]? = some (.cells (bs sm) 24 (0, 0)) := S7.out.row
  clear S7
  go_region_with (first
      | (go_at_call 16; refine (CS _ hS0.out.tx).mono ?_; rintro e W8 ⟨rfl, b8⟩; have S8 : Hid (St d sm w.heap.size g (.slice o d.length c) w W8) := hS0.out.below b8; have hr8 : W8.heap[w.heap.size]? = some (.cells (bs sm) 24 (0, 0)) := S8.out.row; clear b8)
      | (go_at_call 17; refine (CR _).mono ?_; rintro e W9 ⟨rfl, b9⟩; have S9 : Hid (St d sm w.heap.size g (.slice o d.length c) w W9) := S8.out.below b9; clear b9)
      | (go_at_call 9; refine (padded_any d hdl _ _ S9.out.dat).mono ?_; rintro e W10 ⟨xn, rfl, b10, on⟩; have S10 : Hid (St d sm w.heap.size g (.slice o d.length c) w W10) := S9.out.below b10; have Y10 : Hid (Byl xn (d ++ marks) W10) := (byl_own on).1; clear b10 on)
      | (go_at_call 18; refine (bytes_any (d ++ marks) (d ++ marks) hml _ _ _ (sx_full hc1 hc2 S10.out) Y10.out).mono ?_; rintro e W11 ⟨rfl, b11⟩; have S11 : Hid (St d sm w.heap.size g (.slice o d.length c) w W11) := S10.out.below b11; clear b11))
  all_goals
    have F11 : Hid (Fst g d W11) := by
      have := S11.out.fs.take (n := d.length)
      rw [List.take_left] at this
      exact this
    clear S8 S9 S10 Y10 hr8 hr0 hr0' hS0 CS CR hld
    go_wp2_with fail
    refine (turned_any d hdb g cx hd2 W11 F11).mono ?_
    rintro e W12 ⟨rfl, f12, t12⟩
    have T12 : Hid (St2 d' w.heap.size g w W12) := by
      have hG := HG.out
      have hs := HT.out.sz
      have hsz := S11.out.bel.size
      exact ⟨S11.out.bel.trans (t12.below (Nat.le_of_lt hG) hsz), S11.out.tx.keep t12.size (fun j hj => t12.block j (by omega) (by omega)), by rw [HD'.out]; exact f12.out, Nat.lt_of_lt_of_le S11.out.gs t12.size, by omega, by omega⟩
    clear f12 t12 F11 S11
    go_wp2_with fail
    refine (hexC_s d' hd'b hd'l _ W12 (T12.out.own hd'n hcx hc2) T12.out.tx).mono ?_
    rintro e W13 ⟨rfl, b13⟩
    have T13 : Hid (St2 d' w.heap.size g w W13) := T12.out.below b13
    clear b13 T12
    go_wp2_with fail
    refine (hexR_s d' hd'b hd'l _ W13 (T13.out.own hd'n hcx hc2)).mono ?_
    rintro e W14 ⟨rfl, b14⟩
    have T14 : Hid (St2 d' w.heap.size g w W14) := T13.out.below b14
    clear b14 T13
    go_wp2_with fail
    refine (b32C_s d' hd'b hd'l _ W14 (T14.out.own hd'n hcx hc2) T14.out.tx).mono ?_
    rintro e W15 ⟨rfl, b15⟩
    have T15 : Hid (St2 d' w.heap.size g w W15) := T14.out.below b15
    clear b15 T14
    go_wp2_with fail
    refine (b32R_s d' hd'b hd'l _ W15 (T15.out.own hd'n hcx hc2)).mono ?_
    rintro e W16 ⟨rfl, b16⟩
    have T16 : Hid (St2 d' w.heap.size g w W16) := T15.out.below b16
    clear b16 T15
    go_wp2_with fail
    refine (b64C_s d' hd'b hd'l _ W16 (T16.out.own hd'n hcx hc2) T16.out.tx).mono ?_
    rintro e W17 ⟨rfl, b17⟩
    have T17 : Hid (St2 d' w.heap.size g w W17) := T16.out.below b17
    clear b17 T16
    go_wp2_with fail
    refine (b64R_s d' hd'b hd'l _ W17 (T17.out.own hd'n hcx hc2)).mono ?_
    rintro e W18 ⟨rfl, b18⟩
    have T18 : Hid (St2 d' w.heap.size g w W18) := T17.out.below b18
    clear b18 T17
    go_wp2_with fail
    go_ret
    exact ⟨rfl, T18.out.bel⟩
end Go.Proofs.YtkppejaigodgiabDoor
