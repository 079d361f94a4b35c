/- DigestLabels' walk, whole. -/
import Derived.Test.YtkppejaigodgiabDoorLblN
import Derived.Test.YtkppejaigodgiabDoorShZ
namespace Go.Proofs.YtkppejaigodgiabDoor.Lbl
open Go.RowKit
open Go.Proofs.YtkppejaigodgiabDoor.Sha (fromR headR Tb Took roundN startN Byz Pcz write_tz app_byz take_flat sum_flat_le new_any took_zero hz)
theorem own_keep {w w' : World} {base n : Nat} {v : Value} {l : List Value} (h : w.ownsRow base 5 1 v n l) (hb : ∀ g, v.ownBlock = some g → w'.heap[g]? = w.heap[g]?) : w'.ownsRow base 5 1 v n l := by
  obtain ⟨hl, h0 | ⟨g, cap, cur, hv, hbg, hg, r⟩⟩ := h
  · exact ⟨hl, .inl h0⟩
  · exact ⟨hl, .inr ⟨g, cap, cur, hv, hbg, (hb g (by rw [hv]; rfl)).trans hg, r⟩⟩
attribute [local go_sem ↓] toApp
set_option maxRecDepth 100000 in
set_option maxHeartbeats 1600000 in
theorem labels_any (ds : List (List Nat)) (hdb : ∀ d ∈ ds, Byt d) (hfl : ds.flatten.length ≤ 1048576) (hdl : ds.length ≤ 1048576) (f a : Int) (dg : Nat) (hdg : dg < 256) (pv : Value) (w : World) (tb : Tb w) (tx : Tx w) (hp : Pcz pv ds w) :
    Calls Tryd.prog 7 #[pv, .int .i64 f, .int .i64 a, .int .u8 (dg : Int)] w fun e w' => e = .returned (.bool true) ∧ Below w.heap.size w w' := by
  obtain ⟨po, pc, rfl⟩ := hp.shape
  have HP : Hid (Pcz (.slice po ds.length pc) ds w) := hp
  have TB : Hid (Tb w) := tb
  have TX : Hid (Tx w) := tx
  have hw6 := tb.sz
  clear hp tb tx
  go_enter Tryd.func7, Tryd.ntmps7
  go_wp2_with fail
  refine (new_any w).mono ?_
  rintro e W0 ⟨rfl, hW0⟩
  have bel0 : Below w.heap.size w W0 := by rw [hW0]; exact (Below.refl _ w).alloc (Nat.le_refl _) _
  have took0 : Took roundN startN [] w.heap.size W0 := took_zero _ _ _ _ (by rw [hW0]; exact heap_alloc_new _ _)
  have s0 : W0.heap.size = w.heap.size + 1 := by rw [hW0]; simp
  have S0 : Hid (w.heap.size + 1 ≤ W0.heap.size) := by show _ ≤ _; omega
  clear hW0 s0
  go_wp2_with fail
  go_loopw [10, 11] (fun av i wr => ∃ k : Nat, i = .int .i64 (k : Int) ∧ k ≤ ds.length ∧ Hid (wr.ownsRow (w.heap.size + 1) 5 1 av (ds.take k).flatten.length (bs (ds.take k).flatten).toList) ∧ Hid (Took roundN startN (ds.take k).flatten w.heap.size wr) ∧ Hid (w.heap.size + 1 ≤ wr.heap.size) ∧ Below w.heap.size w wr) (fun _ i _ => ds.length - (intOf i).toNat)
  case atStart => exact ⟨0, rfl, by omega, World.ownsRow_nil _ _ _ _, took0, S0, bel0⟩
  case round =>
    clear took0 S0 bel0
    obtain ⟨k, rfl, hk, HO, HT, HS, hbl⟩ := hrel
    by_cases hlt : k < ds.length
    · have hlt' : (k : Int) < (ds.length : Int) := by omega
      have hk0 : (0 : Int) ≤ (k : Int) := by omega
      obtain ⟨p, off, cap, vs, hpv, hc1, hc2, hpl, hvl, hcell, hby⟩ : ∃ p off cap, ∃ vs : List Value, Value.slice po ds.length pc = .slice (some ⟨p, off, none⟩) ds.length cap ∧ ds.length ≤ cap ∧ cap ≤ maxLen ∧ p < w.heap.size ∧ vs.length = ds.length ∧ (∀ j (h : j < vs.length), w.cell? ⟨p, off + j, none⟩ = some (vs[j]'h)) ∧ (∀ j (h1 : j < vs.length) (h2 : j < ds.length), Byz (vs[j]'h1) (ds[j]'h2) w) := by
        rcases HP.out with ⟨_, h2⟩ | h
        · rw [h2] at hlt; simp at hlt
        · exact h
      injection hpv with e1 _ e3
      subst e1 e3
      obtain ⟨v, hv⟩ : ∃ v, v = vs[k]'(by omega) := ⟨_, rfl⟩
      obtain ⟨d, hd⟩ : ∃ d, d = ds[k]'hlt := ⟨_, rfl⟩
      have cv : wr.cell? ⟨p, off + k, none⟩ = some v := by rw [hv]; exact (World.cell?_of_block (w := w) (hbl.block p hpl)).trans (hcell k (by omega))
      have hyz : Byz v d w := by rw [hv, hd]; exact hby k (by omega) hlt
      have htf : (ds.take (k + 1)).flatten = (ds.take k).flatten ++ d := by rw [hd]; exact take_flat ds k hlt
      have hle := sum_flat_le ds (k + 1)
      rw [htf, List.length_append] at hle
      have hdB : Byt d := hdb d (by rw [hd]; exact List.getElem_mem hlt)
      have CW := write_tz w.heap.size (ds.take k).flatten d hdB (by omega) v w wr hyz (Nat.le_refl _) hbl (by omega) (TB.out.below hbl hw6) HT.out
      have HW : Hid (Calls Tryd.prog 29 #[.pointer (some ⟨w.heap.size, 0, none⟩), v] wr fun e w' => e = .returned (.int .i64 0) ∧ w'.cell? ⟨p, off + k, none⟩ = some v ∧ Hid (∃ av' w'', (appR 22 #[u10, v]).run Tryd.prog w' = .ok av' w'' ∧ w''.ownsRow (w.heap.size + 1) 5 1 av' (ds.take (k + 1)).flatten.length (bs (ds.take (k + 1)).flatten).toList ∧ Took roundN startN (ds.take (k + 1)).flatten w.heap.size w'' ∧ w.heap.size + 1 ≤ w''.heap.size ∧ Below w.heap.size w w'')) := by
        refine CW.mono fun e w' ⟨he, hT', ht⟩ => ?_
        have hb' : Below w.heap.size w w' := hbl.trans (ht.below (Nat.le_refl _) hbl.size)
        have ho' : w'.ownsRow (w.heap.size + 1) 5 1 u10 (ds.take k).flatten.length (bs (ds.take k).flatten).toList := own_keep HO.out (fun g hg => by
          have h1 := HO.out.lt g hg
          exact ht.block g h1.2 (by omega))
        have hz' := Nat.le_trans HS.out ht.size
        obtain ⟨av', w'', hr, ho, hg⟩ := app_byz w' (w.heap.size + 1) _ 22 u10 v _ d ho' (hyz.keep hb') (by omega) hz'
        refine ⟨he, by rw [hv]; exact (World.cell?_of_block (w := w) (hb'.block p hpl)).trans (hcell k (by omega)), av', w'', hr, ?_, ?_, Nat.le_trans hz' hg.size, below_grown hb' hg hb'.size (fun g hgg => by have := (ho'.lt g hgg).1; omega)⟩
        · rw [htf, List.length_append]; exact ho
        · rw [htf]
          exact hT'.keep (hg.block _ (by omega) (fun he => by have := (ho'.lt _ he.symm).1; omega))
      clear CW hyz hle hv hd hcell hby htf
      go_wp2_with fail
      refine HW.out.mono ?_
      rintro e W2 ⟨rfl, cv2, hx⟩
      obtain ⟨av', W3, hr3, ho3, hT3, hs3, hb3⟩ := hx.out
      have HO3 : Hid (W3.ownsRow (w.heap.size + 1) 5 1 av' (ds.take (k + 1)).flatten.length (bs (ds.take (k + 1)).flatten).toList) := ho3
      have HT3 : Hid (Took roundN startN (ds.take (k + 1)).flatten w.heap.size W3) := hT3
      have HS3 : Hid (w.heap.size + 1 ≤ W3.heap.size) := hs3
      clear HW hx ho3 hT3 hs3 HO HT HS hbl
      go_wp2_with fail
      go_roundw
      case rel => exact ⟨k + 1, by go_num, by omega, HO3, HT3, HS3, hb3⟩
      case measure => simp [intOf]; omega
    · have hkk : k = ds.length := by omega
      subst hkk
      have hT := HT.out
      have hO := HO.out
      rw [List.take_length] at hT hO
      have TK : Hid (Took roundN startN ds.flatten w.heap.size wr) := hT
      have YV : Hid (YtkppejaigodgiabDoor.Byl u10 ds.flatten wr) := (byl_own hO).1
      have TB' : Hid (Tb wr) := TB.out.below hbl hw6
      have TX' : Hid (Tx wr) := TX.out.below hbl TX.out.sz
      have hmb : Byt ds.flatten := fun x hx => by
        obtain ⟨l, hl, hxl⟩ := List.mem_flatten.1 hx
        exact hdb l hl x hxl
      have hge : ¬ (ds.length : Int) < (ds.length : Int) := by omega
      clear HT HO hT hO HS
      rename_i K hKK
      have HTT : Hid (∀ a w, Code.wp Tryd.prog tail8 _ a w → K a w) := hKK
      clear hKK
      go_wp2_with fail
      refine HTT.out _ _ ?_
      refine tailN ds.flatten hmb hfl f a dg hdg w.heap.size w.heap.size u10 _ _ _ _ _ _ _ _ _ _ _ _ _ _ _ _ _ _ _ _ _ _ _ _ _ _ _ _ _ _ _ _ _ _ _ _ _ _ _ _ _ _ _ _ _ _ _ _ _ _ _ _ _ _ _ _ _ _ _ _ _ _ _ _ _ _ _ _ _ _ _ _ _ _ _ _ _ _ _ _ _ _ _ _ _ _ _ _ _ _ _ _ _ _ _ _ _ _ _ _ _ _ _ _ _ _ _ _ _ _ _ _ _ _ _ _ _ _ _ _ _ _ _ _ _ _ _ _ _ _ _ _ _ _ _ _ _ wr hbl.size TB' TX' TK YV _ ?_
      intro w' hb'
      exact ⟨rfl, hbl.trans hb'⟩
end Go.Proofs.YtkppejaigodgiabDoor.Lbl
