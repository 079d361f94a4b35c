/- DigestMacs' walk: its second half. -/
import Derived.Test.YtkppejaigodgiacDoorStep4
import Derived.Deep.RegionWith
namespace Go.Proofs.YtkppejaigodgiacDoor.Macs
open Go.RowKit Go.Proofs.YtkppejaigodgiacDoor.Sha
theorem sliced_h (g n c : Nat) : sliced (some ⟨g, 0, none⟩) 0 n c 1 = .slice (some ⟨g, 0, none⟩) n c := by simp [sliced, Addr.add]
/-- What holds at each moment: the arguments, and both copies. -/
structure St (key d ka da : List Nat) (G ga gb : Nat) (kv dv : Value) (w W : World) : Prop where
  bel : Below G w W
  tb : Tb W
  tr : Tr W
  k : YtkppejaigodgiacDoor.Byl kv key W
  d : YtkppejaigodgiacDoor.Byl dv d W
  fa : Fst ga ka W
  fb : Fst gb da W
  sa : ga < W.heap.size
  sb : gb < W.heap.size
  hG : 3 < G
  hs : G ≤ W.heap.size
theorem St.below {key d ka da : List Nat} {G ga gb : Nat} {kv dv : Value} {w W W' : World} (h : St key d ka da G ga gb kv dv w W) (b : Below W.heap.size W W') : St key d ka da G ga gb kv dv w W' :=
  ⟨h.bel.trans (b.mono h.hs), h.tb.below b h.tb.sz, h.tr.below b h.tb.sz, h.k.below b, h.d.below b, h.fa.keep (b.block ga h.sa), h.fb.keep (b.block gb h.sb), Nat.lt_of_lt_of_le h.sa b.size, Nat.lt_of_lt_of_le h.sb b.size, h.hG, Nat.le_trans h.hs b.size⟩
theorem fst_byl {l : List Nat} {g c n : Nat} {W : World} (h : Fst g l W) (hn : n ≤ l.length) (hc : n ≤ c) (hm : c ≤ maxLen) : YtkppejaigodgiacDoor.Byl (.slice (some ⟨g, 0, none⟩) n c) (l.take n) W := by
  have h1 := h.take (n := n)
  have h2 : (l.take n).length = n := by rw [List.length_take]; omega
  have := h1.byl (c := c) (by omega) hm
  rw [h2] at this
  exact this
theorem eq25 (w : World) (a : List Nat) (ha : a.length = 32) : (Op.equalIn 10000 25 (.agg (bs a)) (.agg (bs a))).run Tryd.prog w = .ok true w := by
  have := run_equalIn_bs (P := Tryd.prog) w 9998 Tryd.underlying25 Tryd.underlying5 size5 a a ha ha
  simpa using this
theorem run_store25 (w : World) (g : Nat) (cs : Array Value) (l : List Nat) (hg : w.heap[g]? = some (.cells cs 25 (0, 0))) (h1 : cs.size = 32) (h2 : l.length = 32) : (storeR 25 (.pointer (some ⟨g, 0, none⟩)) (.agg (bs l))).run Tryd.prog w = .ok () (w.setRow g (bs l)) := by
  unfold storeR
  simp only [Instr.storeAt, Instr.sureAddr, Sem.run_bind, Sem.run_pure, Result.andThen_ok, run_storeVar_row w g 25 25 cs (bs l) hg (by rw [size24', bs_size, h2]) (by rw [bs_size, h1, h2]) (bs_one _)]
theorem to25l (v : Value) : Instr.loadAt 25 v = loadR 25 v := rfl
theorem run_load25 (w : World) (g : Nat) (l : List Nat) (hg : w.heap[g]? = some (.cells (bs l) 25 (0, 0))) (hl : l.length = 32) : (loadR 25 (.pointer (some ⟨g, 0, none⟩))).run Tryd.prog w = .ok (.agg (bs l)) w := by
  unfold loadR
  simp only [Instr.loadAt, Instr.sureAddr, Sem.run_bind, Sem.run_pure, Result.andThen_ok, run_loadVar_row w g 25 25 (bs l) (0, 0) _ hg Tryd.underlying25 rfl (by rw [size24', bs_size, hl])]
theorem at_dst {ops : Array Oper} {j d : Nat} (h : (ops[j]?).bind (·.dst) = some d) : ∃ o, ops[j]? = some o ∧ o.dst = some d := by
  cases hc : ops[j]? with
  | none => rw [hc] at h; cases h
  | some o => rw [hc] at h; exact ⟨o, rfl, h⟩
/-- The state, and the sum in its block. -/
def S5P {M : List Nat} {A : Nat} (S : World → Prop) (W : World) : Prop := S W ∧ W.heap[A]? = some (.cells (bs M) 25 (0, 0))
attribute [local go_sem ↓] toSl to25l to28s
noncomputable def tail3 : Code := ((Tryd.f3.body.bind (fromR 4)).getD .skip)
set_option maxRecDepth 100000 in
set_option maxHeartbeats 3200000 in
theorem tailX (key d : List Nat) (hkb : Byt key) (hdb : Byt d) (hkl : key.length ≤ 140737488351232) (hdl : d.length ≤ 140737488351232) (ko dO : Option Addr) (kc dc ga gb ca cb A : Nat) (M : List Nat) (hM : Hid (M = mac key d)) (v2 v3 v4 v8 v9 v10 v11 v12 v13 v14 v15 v16 v17 v18 v19 v20 v21 v22 v23 v24 v25 v26 v27 v28 v29 v30 v31 v32 v33 v34 v35 v36 v37 v38 v39 v40 v41 v42 v43 v44 v45 v46 v47 v48 v49 v50 v51 v52 v53 v54 v55 v56 v57 v58 v59 v60 v61 v62 v63 v64 v65 v66 v67 v68 v69 v70 v71 v72 v73 v74 v75 v76 v77 v78 v79 v80 v81 v82 v83 v84 : Value) (w W5 : World)
    (hca1 : key.length + 8 ≤ ca) (hca2 : ca ≤ maxLen) (hcb1 : d.length + 8 ≤ cb) (hcb2 : cb ≤ maxLen) (HGa : Hid (w.heap.size ≤ ga)) (HGb : Hid (w.heap.size ≤ gb)) (HNe : Hid (ga ≠ gb))
    (HK : Hid (YtkppejaigodgiacDoor.Byl (.slice ko key.length kc) key w)) (HD : Hid (YtkppejaigodgiacDoor.Byl (.slice dO d.length dc) d w))
    (S5 : Hid (St key d (key ++ marks) (d ++ marks) w.heap.size ga gb (.slice ko key.length kc) (.slice dO d.length dc) w W5)) (rA : W5.heap[A]? = some (.cells (bs M) 25 (0, 0)))
    (R : Ending → World → Prop) (hR : Hid (∀ w', Below w.heap.size w w' → R (.returned (.bool true)) w')) :
    Code.wp Tryd.prog tail3 (bodyPost Tryd.prog Tryd.f3 R) ⟨#[.slice ko key.length kc, .slice dO d.length dc, v2, v3, v4, .slice (some ⟨ga, 0, none⟩) (key.length + 8) ca, .slice (some ⟨gb, 0, none⟩) (d.length + 8) cb, .pointer (some ⟨A, 0, none⟩), v8, v9, v10, v11, v12, v13, v14, v15, v16, v17, v18, v19, v20, v21, v22, v23, v24, v25, v26, v27, v28, v29, v30, v31, v32, v33, v34, v35, v36, v37, v38, v39, v40, v41, v42, v43, v44, v45, v46, v47, v48, v49, v50, v51, v52, v53, v54, v55, v56, v57, v58, v59, v60, v61, v62, v63, v64, v65, v66, v67, v68, v69, v70, v71, v72, v73, v74, v75, v76, v77, v78, v79, v80, v81, v82, v83, v84], []⟩ W5 := by
  have hMl : M.length = 32 := by rw [hM.out]; exact mac_len _ _
  have hca : key.length ≤ ca := by omega
  have hcb : d.length ≤ cb := by omega
  have hcutA : ∀ W, (slR (.slice (some ⟨ga, 0, none⟩) (key.length + 8) ca) none (some (.int .i64 (key.length : Int))) none).run Tryd.prog W = .ok (.slice (some ⟨ga, 0, none⟩) key.length ca) W := fun W => by
    have := run_cut_h W (some ⟨ga, 0, none⟩) (key.length + 8) ca key.length hca
    rw [sliced_h] at this
    exact this
  have hcutB : ∀ W, (slR (.slice (some ⟨gb, 0, none⟩) (d.length + 8) cb) none (some (.int .i64 (d.length : Int))) none).run Tryd.prog W = .ok (.slice (some ⟨gb, 0, none⟩) d.length cb) W := fun W => by
    have := run_cut_h W (some ⟨gb, 0, none⟩) (d.length + 8) cb d.length hcb
    rw [sliced_h] at this
    exact this
  have hqM := fun W => eq25 W M hMl
  have hmk : (key ++ marks).length ≤ 140737488355328 := by simp [marks]; omega
  have hmd : (d ++ marks).length ≤ 140737488355328 := by simp [marks]; omega
  have hlk : (key ++ marks).length = key.length + 8 := by simp [marks]
  have hld : (d ++ marks).length = d.length + 8 := by simp [marks]
  have HF : Hid (∀ W, St key d (key ++ marks) (d ++ marks) w.heap.size ga gb (.slice ko key.length kc) (.slice dO d.length dc) w W → YtkppejaigodgiacDoor.Byl (.slice (some ⟨ga, 0, none⟩) (key.length + 8) ca) (key ++ marks) W ∧ YtkppejaigodgiacDoor.Byl (.slice (some ⟨gb, 0, none⟩) (d.length + 8) cb) (d ++ marks) W) := fun W h => by
    have y1 := h.fa.byl (c := ca) (by omega) hca2
    have y2 := h.fb.byl (c := cb) (by omega) hcb2
    rw [hlk] at y1
    rw [hld] at y2
    exact ⟨y1, y2⟩
  clear hlk hld
  conv => arg 2; whnf
  go_wp2_with fail
  have hS5 : Hid (S5P (M := M) (A := A) (St key d (key ++ marks) (d ++ marks) w.heap.size ga gb (.slice ko key.length kc) (.slice dO d.length dc) w) W5) := ⟨S5.out, rA⟩
  obtain ⟨S, hSdef⟩ : ∃ S : World → Prop, S = S5P (M := M) (A := A) (St key d (key ++ marks) (d ++ marks) w.heap.size ga gb (.slice ko key.length kc) (.slice dO d.length dc) w) := ⟨_, rfl⟩
  have hSd : S W5.drew := by rw [hSdef]; exact ⟨S5.out.below (Below.refl _ W5).drew, rA⟩
  have hSb : ∀ W W', S W → Below W.heap.size W W' → S W' := fun W W' h hb => by
    rw [hSdef] at h ⊢
    exact ⟨h.1.below hb, (hb.block A (Array.getElem?_eq_some_iff.1 h.2).1).trans h.2⟩
  have hS1 : ∀ W, S W → St key d (key ++ marks) (d ++ marks) w.heap.size ga gb (.slice ko key.length kc) (.slice dO d.length dc) w W := fun W h => by rw [hSdef] at h; exact h.1
  have hS2 : ∀ W, S W → W.heap[A]? = some (.cells (bs M) 25 (0, 0)) := fun W h => by rw [hSdef] at h; exact h.2
  clear hSdef hS5 S5 rA
  refine wp_region_rel (ops := reg4) (V := V4 key d M (.slice ko key.length kc) (.slice dO d.length dc) (.slice (some ⟨ga, 0, none⟩) (key.length + 8) ca) (.slice (some ⟨gb, 0, none⟩) (d.length + 8) cb)) (S := S) (T := fun u u' => Below u.heap.size u u') (by kernel_rfl) (V4_stab key d M _ _ _ _) (fun i o ho => (okR_at okR4 ho).1) (fun i j o oj e ho hj q1 q2 => (okR_at okR4 ho).2.2 j oj e hj q1 q2) (fun i o e ho q => (okR_at okR4 ho).2.1 e q)
    (step4 _ key d M _ _ _ _ S A _ rfl rfl rfl rfl rfl hSb (fun W h => run_load25 W A M (hS2 W h) hMl) hqM
      (fun W h => by
        have s := hS1 W h
        have := macR_tb key d _ _ hkb hdb hkl hdl W s.tr s.tb.sz s.k s.d
        rw [← hM.out] at this
        exact this)
      (fun W h => (Big.padded_any key hkl _ W (hS1 W h).k).mono fun e w' ⟨x, h1, h2, h3⟩ => ⟨x, h1, h2, (byl_own h3).1⟩)
      (fun W h => (Big.padded_any d hdl _ W (hS1 W h).d).mono fun e w' ⟨x, h1, h2, h3⟩ => ⟨x, h1, h2, (byl_own h3).1⟩)
      (fun W x h hx => (Big.bytes_any (key ++ marks) (key ++ marks) hmk _ _ W (HF.out W (hS1 W h)).1 hx).mono fun e w' ⟨h1, h2⟩ => ⟨by rw [h1]; simp, h2⟩)
      (fun W x h hx => (Big.bytes_any (d ++ marks) (d ++ marks) hmd _ _ W (HF.out W (hS1 W h)).2 hx).mono fun e w' ⟨h1, h2⟩ => ⟨by rw [h1]; simp, h2⟩)) hSd ?_
  intro X W11 hS11 hX
  have T11 : Hid (St key d (key ++ marks) (d ++ marks) w.heap.size ga gb (.slice ko key.length kc) (.slice dO d.length dc) w W11) := hS1 _ hS11
  obtain ⟨o18, ho18, hd18⟩ := at_dst (ops := reg4) (j := 18) (d := 39) (by kernel_rfl)
  have e18 : X 18 = .bool false := hX 18 o18 39 ho18 hd18
  rw [put4, e18]
  clear hX e18 hS1 hS2 hSb hS11 hSd hqM
  have F11 : Hid (Fst ga key W11) := by
    have := T11.out.fa.take (n := key.length)
    rw [List.take_left] at this
    exact this
  obtain ⟨key', hk'⟩ : ∃ l, l = key.map (fun x => 255 - x) := ⟨_, rfl⟩
  have HK' : Hid (key' = key.map (fun x => 255 - x)) := hk'
  have hk'n : key'.length = key.length := by rw [hk', List.length_map]
  have hk'l : key'.length ≤ 140737488351232 := by omega
  have hk'b : Byt key' := fun x hx => by
    rw [hk'] at hx
    obtain ⟨y, _, rfl⟩ := List.mem_map.1 hx
    omega
  obtain ⟨d', hd'⟩ : ∃ l, l = d.map (fun x => 255 - x) := ⟨_, rfl⟩
  have HD' : Hid (d' = d.map (fun x => 255 - x)) := hd'
  have hd'n : d'.length = d.length := by rw [hd', List.length_map]
  have hd'l : d'.length ≤ 140737488351232 := by omega
  have hd'b : Byt d' := fun x hx => by
    rw [hd'] at hx
    obtain ⟨y, _, rfl⟩ := List.mem_map.1 hx
    omega
  clear hk' hd'
  go_wp2_with fail
  refine (Big.turned_any key hkb ga ca (by omega) W11 F11).mono ?_
  rintro e W12 ⟨rfl, f12, t12⟩
  have T12 : Hid (St key d key' (d ++ marks) w.heap.size ga gb (.slice ko key.length kc) (.slice dO d.length dc) w W12) := by
    have s := T11.out
    have hG := HGa.out
    have h6 := s.hG
    have hs := s.hs
    have bl : Below w.heap.size w W12 := s.bel.trans (t12.below hG hs)
    exact ⟨bl, s.tb.keep t12.size (fun j hj => t12.block j (by omega) (by omega)), s.tr.keep (fun j hj => t12.block j (by omega) (by omega)), HK.out.below bl, HD.out.below bl, by rw [HK'.out]; exact f12.out, s.fb.keep (t12.block gb s.sb (fun h => HNe.out h.symm)), Nat.lt_of_lt_of_le s.sa t12.size, Nat.lt_of_lt_of_le s.sb t12.size, s.hG, Nat.le_trans hs t12.size⟩
  clear f12 t12 F11 T11
  obtain ⟨M', hM'⟩ : ∃ M', M' = mac key' d := ⟨_, rfl⟩
  have hM'l : M'.length = 32 := by rw [hM']; exact mac_len _ _
  have hqM' := fun W => eq25 W M' hM'l
  have C6 : Hid (∀ W, St key d key' (d ++ marks) w.heap.size ga gb (.slice ko key.length kc) (.slice dO d.length dc) w W → Calls Tryd.prog 6 #[.slice (some ⟨ga, 0, none⟩) key.length ca, .slice (some ⟨gb, 0, none⟩) d.length cb] W fun e w' => e = .returned (.agg (bs M')) ∧ Below W.heap.size W w') := fun W s => by
    have y1 := fst_byl (n := key.length) (c := ca) s.fa (by omega) hca hca2
    have y2 := fst_byl (n := d.length) (c := cb) s.fb (by simp) hcb hcb2
    rw [List.take_of_length_le (by omega)] at y1
    rw [List.take_left] at y2
    rw [hM']
    exact macC_tb key' d _ _ hk'b hdb hk'l hdl W s.tb y1 y2
  have C7 : Hid (∀ W, St key d key' (d ++ marks) w.heap.size ga gb (.slice ko key.length kc) (.slice dO d.length dc) w W → Calls Tryd.prog 7 #[.slice (some ⟨ga, 0, none⟩) key.length ca, .slice dO d.length dc] W fun e w' => e = .returned (.agg (bs M')) ∧ Below W.heap.size W w') := fun W s => by
    have y1 := fst_byl (n := key.length) (c := ca) s.fa (by omega) hca hca2
    rw [List.take_of_length_le (by omega)] at y1
    rw [hM']
    exact macR_tb key' d _ _ hk'b hdb hk'l hdl W s.tr s.tb.sz y1 s.d
  clear hM'
  go_wp2_with fail
  go_region_with (first
    | (go_at_call 6; refine (C6.out _ (T12.out.below ((Below.refl _ W12).drew))).mono ?_; rintro e W13 ⟨rfl, b13⟩; have T13 : Hid (St key d key' (d ++ marks) w.heap.size ga gb (.slice ko key.length kc) (.slice dO d.length dc) w W13) := (T12.out.below ((Below.refl _ W12).drew)).below b13; clear b13)
    | (go_at_call 7; refine (C7.out _ T13.out).mono ?_; rintro e W14 ⟨rfl, b14⟩; have T14 : Hid (St key d key' (d ++ marks) w.heap.size ga gb (.slice ko key.length kc) (.slice dO d.length dc) w W14) := T13.out.below b14; clear b14))
  have F14 : Hid (Fst gb d W14) := by
    have := T14.out.fb.take (n := d.length)
    rw [List.take_left] at this
    exact this
  clear T12 T13 C6 C7 hqM'
  go_wp2_with fail
  refine (Big.turned_any d hdb gb cb (by omega) W14 F14).mono ?_
  rintro e W15 ⟨rfl, f15, t15⟩
  have T15 : Hid (St key d key' d' w.heap.size ga gb (.slice ko key.length kc) (.slice dO d.length dc) w W15) := by
    have s := T14.out
    have hG := HGb.out
    have h6 := s.hG
    have hs := s.hs
    have bl : Below w.heap.size w W15 := s.bel.trans (t15.below hG hs)
    exact ⟨bl, s.tb.keep t15.size (fun j hj => t15.block j (by omega) (by omega)), s.tr.keep (fun j hj => t15.block j (by omega) (by omega)), HK.out.below bl, HD.out.below bl, s.fa.keep (t15.block ga s.sa HNe.out), by rw [HD'.out]; exact f15.out, Nat.lt_of_lt_of_le s.sa t15.size, Nat.lt_of_lt_of_le s.sb t15.size, s.hG, Nat.le_trans hs t15.size⟩
  clear f15 t15 F14 T14
  obtain ⟨M2, hM2⟩ : ∃ M2, M2 = mac key' d' := ⟨_, rfl⟩
  have hM2l : M2.length = 32 := by rw [hM2]; exact mac_len _ _
  have hqM2 := fun W => eq25 W M2 hM2l
  have Y : ∀ W, St key d key' d' w.heap.size ga gb (.slice ko key.length kc) (.slice dO d.length dc) w W → YtkppejaigodgiacDoor.Byl (.slice (some ⟨ga, 0, none⟩) key.length ca) key' W ∧ YtkppejaigodgiacDoor.Byl (.slice (some ⟨gb, 0, none⟩) d.length cb) d' W := fun W s => by
    have y1 := fst_byl (n := key.length) (c := ca) s.fa (by omega) hca hca2
    have y2 := fst_byl (n := d.length) (c := cb) s.fb (by omega) hcb hcb2
    rw [List.take_of_length_le (by omega)] at y1 y2
    exact ⟨y1, y2⟩
  have C8 : Hid (∀ W, St key d key' d' w.heap.size ga gb (.slice ko key.length kc) (.slice dO d.length dc) w W → Calls Tryd.prog 6 #[.slice (some ⟨ga, 0, none⟩) key.length ca, .slice (some ⟨gb, 0, none⟩) d.length cb] W fun e w' => e = .returned (.agg (bs M2)) ∧ Below W.heap.size W w') := fun W s => by
    rw [hM2]
    exact macC_tb key' d' _ _ hk'b hd'b hk'l hd'l W s.tb (Y W s).1 (Y W s).2
  have C9 : Hid (∀ W, St key d key' d' w.heap.size ga gb (.slice ko key.length kc) (.slice dO d.length dc) w W → Calls Tryd.prog 7 #[.slice (some ⟨ga, 0, none⟩) key.length ca, .slice (some ⟨gb, 0, none⟩) d.length cb] W fun e w' => e = .returned (.agg (bs M2)) ∧ Below W.heap.size W w') := fun W s => by
    rw [hM2]
    exact macR_tb key' d' _ _ hk'b hd'b hk'l hd'l W s.tr s.tb.sz (Y W s).1 (Y W s).2
  clear hM2 Y
  go_wp2_with fail
  go_region_with (first
    | (go_at_call 6; refine (C8.out _ (T15.out.below ((Below.refl _ W15).drew))).mono ?_; rintro e W16 ⟨rfl, b16⟩; have T16 : Hid (St key d key' d' w.heap.size ga gb (.slice ko key.length kc) (.slice dO d.length dc) w W16) := (T15.out.below ((Below.refl _ W15).drew)).below b16; clear b16)
    | (go_at_call 7; refine (C9.out _ T16.out).mono ?_; rintro e W17 ⟨rfl, b17⟩; have T17 : Hid (St key d key' d' w.heap.size ga gb (.slice ko key.length kc) (.slice dO d.length dc) w W17) := T16.out.below b17; clear b17))
  go_wp2_with fail
  go_ret
  exact hR.out _ T17.out.bel
end Go.Proofs.YtkppejaigodgiacDoor.Macs
