/- SieveBack: sameHits of any two, New of words that are turned, and the way back. -/
import Derived.Test.YtceaklefdahfkabRwJ
import Derived.Lib.ConvBytes
import Derived.Laws.BitsAllLaws
namespace Go.Proofs.Ytceaklefdahfkab
open Go.RowKit
theorem pref_ne {l1 l2 : List (Int × Int)} {k : Nat} (h : l1.getD k (0, 0) ≠ l2.getD k (0, 0)) : l1 ≠ l2 := fun e => h (by rw [e])
theorem ext_hits {l1 l2 : List (Int × Int)} (hl : l1.length = l2.length) (h : ∀ j, j < l1.length → l1.getD j (0, 0) = l2.getD j (0, 0)) : l1 = l2 := by
  apply List.ext_getElem hl
  intro i h1 h2
  have := h i h1
  simpa [List.getD, h1, h2] using this
set_option maxRecDepth 100000 in
theorem same_gen (l1 l2 : List (Int × Int)) (v u : Value) (w : World) (hv : Hl v l1 w) (hu : Hl u l2 w) :
    Calls Try.prog 15 #[v, u] w fun e w' => e = .returned (.bool (decide (l1 = l2))) ∧ Below w.heap.size w w' := by
  obtain ⟨o, c, rfl, hl, ho⟩ := hv.form
  obtain ⟨o2, c2, rfl, _, ho2⟩ := hu.form
  clear hv hu
  have HO : Hid _ := ho
  have HO2 : Hid _ := ho2
  clear ho ho2
  by_cases hlen : l1.length = l2.length
  · have HLN : Hid (l1.length = l2.length) := hlen
    rw [← hlen] at HO2 ⊢
    clear hlen
    go_enter Try.func15, Try.ntmps15
    go_wp2_with fail
    go_loopw [5] (fun i wr => ∃ k : Nat, i = .int .i64 (k : Int) ∧ k ≤ l1.length ∧ Hid (∀ j, j < k → l1.getD j (0, 0) = l2.getD j (0, 0)) ∧ Below w.heap.size w wr) (fun i _ => l1.length - (intOf i).toNat)
    case atStart => exact ⟨0, rfl, by omega, fun j hj => by omega, Below.refl _ _⟩
    case round =>
      obtain ⟨k, rfl, hk, HE, hbl⟩ := hrel
      by_cases hlt : k < l1.length
      · obtain ⟨b, off, rfl, hb, hc⟩ := HO.out (by omega)
        obtain ⟨b2, off2, rfl, hb2, hc2⟩ := HO2.out (by omega)
        have hk1 : (k : Int) < (l1.length : Int) := by omega
        have hk0 : (0 : Int) ≤ (k : Int) := by omega
        have c1 := (World.cell?_of_block (w := w) (hbl.block b hb)).trans (hc k hlt).1
        have c2 := (World.cell?_of_block (w := w) (hbl.block b hb)).trans (hc k hlt).2
        have c3 := (World.cell?_of_block (w := w) (hbl.block b2 hb2)).trans (hc2 k hlt).1
        have c4 := (World.cell?_of_block (w := w) (hbl.block b2 hb2)).trans (hc2 k hlt).2
        have HB : Hid (Below w.heap.size w wr) := hbl
        clear hc hc2 hbl
        have HX : Hid (l1.getD k (0, 0) = l2.getD k (0, 0) → ∀ j, j < k + 1 → l1.getD j (0, 0) = l2.getD j (0, 0)) := fun h j hj => by
          rcases Nat.lt_or_ge j k with h2 | h2
          · exact HE.out j h2
          · rw [show j = k by omega]; exact h
        have HY : Hid (l1.getD k (0, 0) ≠ l2.getD k (0, 0) → decide (l1 = l2) = false) := fun h => decide_eq_false (pref_ne h)
        generalize l1.getD k (0, 0) = x at c1 c2 HX HY
        generalize l2.getD k (0, 0) = y at c3 c4 HX HY
        obtain ⟨x1, x2⟩ := x
        obtain ⟨y1, y2⟩ := y
        simp only at c1 c2 c3 c4
        by_cases h1 : x1 = y1
        · subst h1
          by_cases h2 : x2 = y2
          · subst h2
            have HZ : Hid _ := HX.out rfl
            clear HX HY HE
            go_wp2_with fail
            go_quiet (fail)
            go_wp2
            exact ⟨⟨k + 1, by rfl, by omega, HZ, Below.drewN' HB.out _⟩, by simp only [intOf]; omega⟩
          · have HZ : Hid (decide (l1 = l2) = false) := HY.out (fun e => h2 (congrArg Prod.snd e))
            clear HX HY HE
            go_wp2_with fail
            go_quiet (fail)
            go_wp2
            go_ret
            exact ⟨by rw [HZ.out]; rfl, Below.drewN' HB.out _⟩
        · have HZ : Hid (decide (l1 = l2) = false) := HY.out (fun e => h1 (congrArg Prod.fst e))
          clear HX HY HE
          go_wp2_with fail
          go_quiet (fail)
          go_wp2
          go_ret
          exact ⟨by rw [HZ.out]; rfl, Below.drewN' HB.out _⟩
      · have hk1 : ¬ ((k : Int) < (l1.length : Int)) := by omega
        have HZ : Hid (decide (l1 = l2) = true) := decide_eq_true (ext_hits HLN.out fun j hj => HE.out j (by omega))
        go_wp2
        go_ret
        exact ⟨by rw [HZ.out]; rfl, hbl⟩
  · have hlen' : ¬ ((l1.length : Int) = (l2.length : Int)) := by omega
    have HZ : Hid (decide (l1 = l2) = false) := decide_eq_false fun e => hlen (by rw [e])
    go_enter Try.func15, Try.ntmps15
    go_wp2
    go_ret
    exact ⟨by rw [HZ.out]; rfl, Below.refl _ _⟩
theorem nwp_ok (ws : List ByteArray) (m : Nat) (hp : Pt ws m) (hnd : (ws.map tl).Nodup) (e : Ending) (w' : World) (h : NewP ws e w') :
    ∃ ns, NewOk ws ns ∧ ∃ g gt, e = .returned (.tuple #[.pointer (some ⟨g, 0, none⟩), .int .i64 0]) ∧ Sve g gt w' ∧ TabK w'.heap.size gt (ftT ((wdS ws ns).map tl) ns m) w' := by
  have hw := hp.wdO
  have hl := hp.ln
  rcases h with ⟨h1, _⟩ | ⟨_, h1, _⟩ | ⟨_, _, ns, hs, ⟨i, hi, ht⟩, _⟩ | ⟨_, _, ns, hok, g, gt, he, h1, h2⟩
  · omega
  · rw [hw] at h1; cases h1
  · have q1 := hs.lt i (by omega)
    have q2 := hs.lt (i + 1) (by omega)
    have hnn : ns.Nodup := hs.perm.nodup_iff.2 List.nodup_range
    have hnl := hs.len
    rw [txt_eq q1, txt_eq q2] at ht
    have h3 : (ws.map tl)[ns.getD i 0]'(by simpa using q1) = (ws.map tl)[ns.getD (i + 1) 0]'(by simpa using q2) := by rw [List.getElem_map, List.getElem_map]; exact ht
    have := (List.getElem_inj (h₀ := by simpa using q1) (h₁ := by simpa using q2) hnd).1 h3
    have e1 : ns.getD i 0 = ns[i]'(by omega) := by simp [List.getD, show i < ns.length by omega]
    have e2 : ns.getD (i + 1) 0 = ns[i + 1]'(by omega) := by simp [List.getD, show i + 1 < ns.length by omega]
    rw [e1, e2] at this
    have := (List.getElem_inj (h₀ := by omega) (h₁ := by omega) hnn).1 this
    omega
  · rw [hw] at h2
    exact ⟨ns, hok, g, gt, he, h1, h2⟩
/-- Bytes turned. -/
def xr (u : Nat) (l : List Nat) : List Nat := l.map fun a => a ^^^ u
theorem xr_len (u : Nat) (l : List Nat) : (xr u l).length = l.length := by simp [xr]
theorem xb_lt {a u : Nat} (ha : a < 256) (hu : u < 256) : a ^^^ u < 256 := Nat.xor_lt_two_pow (n := 8) ha hu
theorem xr_byt {u : Nat} (hu : u < 256) {l : List Nat} (hl : Byt l) : Byt (xr u l) := fun x hx => by
  obtain ⟨a, ha, rfl⟩ := List.mem_map.1 hx
  exact xb_lt (hl a ha) hu
theorem xr_inj {u : Nat} {a b : List Nat} (h : xr u a = xr u b) : a = b := by
  have : (fun x => x ^^^ u) ∘ (fun x => x ^^^ u) = id := by funext x; simp [Nat.xor_assoc]
  have h2 := congrArg (List.map fun x => x ^^^ u) h
  simpa [xr, this] using h2
def tos (u : Nat) (ws : List ByteArray) : List ByteArray := ws.map fun s => bst (xr u (tl s))
theorem tos_len (u : Nat) (ws : List ByteArray) : (tos u ws).length = ws.length := by simp [tos]
theorem tos_size (u : Nat) (ws : List ByteArray) (m : Nat) (h : ∀ s ∈ ws, s.size = m) : ∀ s ∈ tos u ws, s.size = m := fun s hs => by
  obtain ⟨a, ha, rfl⟩ := List.mem_map.1 hs
  rw [bst_size, xr_len, tl_len]; exact h a ha
theorem tos_pt {u : Nat} {ws : List ByteArray} {m : Nat} (h : Pt ws m) : Pt (tos u ws) m := ⟨fun e => h.ne (by have := congrArg List.length e; rw [tos_len] at this; exact List.length_eq_zero_iff.1 this), h.m0, h.m1, by rw [tos_len]; exact h.ln, tos_size u ws m h.sz⟩
theorem tos_all {u : Nat} {ws : List ByteArray} {m : Nat} (h : Pt ws m) : allW m (tos u ws) = true := by
  unfold allW
  rw [List.all_eq_true]
  intro s hs
  exact decide_eq_true (tos_size u ws m h.sz s hs)
theorem pt_all {ws : List ByteArray} {m : Nat} (h : Pt ws m) : allW m ws = true := by
  unfold allW
  rw [List.all_eq_true]
  intro s hs
  exact decide_eq_true (h.sz s hs)
theorem tos_nodup {u : Nat} (hu : u < 256) {ws : List ByteArray} (h : (ws.map tl).Nodup) : ((tos u ws).map tl).Nodup := by
  have e : (tos u ws).map tl = (ws.map tl).map (xr u) := by
    simp only [tos, List.map_map]
    apply List.map_congr_left
    intro s _
    simp only [Function.comp]
    exact tl_bst _ (xr_byt hu (tl_byt s))
  rw [e]
  exact List.Pairwise.map _ (fun a b hab hx => hab (xr_inj hx)) h
theorem ovr_get (l e : List Nat) (o j : Nat) (h : o + e.length ≤ l.length) : (ovr l e o).getD j 0 = if o ≤ j ∧ j < o + e.length then e.getD (j - o) 0 else l.getD j 0 := by
  have hl : (l.take o).length = o := by rw [List.length_take]; omega
  unfold ovr
  by_cases h1 : j < o
  · rw [if_neg (by omega)]
    simp only [List.getD]
    rw [List.append_assoc, List.getElem?_append_left (by omega), List.getElem?_take, if_pos h1]
  · by_cases h2 : j < o + e.length
    · rw [if_pos ⟨by omega, h2⟩]
      simp only [List.getD]
      rw [List.getElem?_append_left (by rw [List.length_append]; omega), List.getElem?_append_right (by omega), hl]
    · rw [if_neg (by omega)]
      simp only [List.getD]
      rw [List.getElem?_append_right (by rw [List.length_append]; omega), List.getElem?_drop, List.length_append, hl]
      congr 2
      omega
/-- A place that some hit covers. -/
def Cov (H : List (Int × Int)) (m j : Nat) : Prop := ∃ x ∈ H, x.1.toNat ≤ j ∧ j < x.1.toNat + m
theorem puts_out {T : List ByteArray} {m : Nat} (hT : ∀ s ∈ T, s.size = m) : ∀ (H : List (Int × Int)) (t : List Nat), (∀ x ∈ H, Hin 0 t.length m T.length x) → ∀ j, ¬ Cov H m j → (puts T 0 t H).getD j 0 = t.getD j 0
  | [], _, _, _, _ => rfl
  | x :: H, t, h, j, hj => by
    obtain ⟨i, k, rfl, h1, h2, h3⟩ := h x (by simp)
    have hsz : (tl (txt T k)).length = m := by rw [tl_len, hT _ (by rw [txt_eq h3]; exact List.getElem_mem h3)]
    have hl : (ovr t (tl (txt T k)) (i - 0)).length = t.length := ovr_len _ _ _ (by omega)
    have := puts_out hT H (ovr t (tl (txt T k)) (i - 0)) (fun y hy => by rw [hl]; exact h y (by simp [hy])) j (fun ⟨y, hy, q⟩ => hj ⟨y, by simp [hy], q⟩)
    have e : (puts T 0 t (((i : Int), (k : Int)) :: H)) = puts T 0 (ovr t (tl (txt T k)) (i - 0)) H := rfl
    rw [e, this, ovr_get _ _ _ _ (by omega), if_neg]
    intro hq
    exact hj ⟨((i : Int), (k : Int)), by simp, by simp only [Int.toNat_natCast]; omega, by simp only [Int.toNat_natCast]; omega⟩
theorem puts_id {ws : List ByteArray} {m : Nat} (hT : ∀ s ∈ ws, s.size = m) (D : List Nat) : ∀ (H : List (Int × Int)), (∀ x ∈ H, Sth (ws.map tl) m D x) → ∀ z : List Nat, z.length = D.length → (∀ j, ¬ Cov H m j → z.getD j 0 = D.getD j 0) → puts ws 0 z H = D
  | [], _, z, hz, h => by
    show z = D
    apply List.ext_getElem hz
    intro i h1 h2
    have := h i (fun ⟨x, hx, _⟩ => by cases hx)
    simpa [List.getD, h1, h2] using this
  | x :: H, hs, z, hz, h => by
    obtain ⟨i, k, rfl, h2, h3, h4⟩ := hs x (by simp)
    have h3' : k < ws.length := by simpa using h3
    have hsz : (tl (txt ws k)).length = m := by rw [tl_len, hT _ (by rw [txt_eq h3']; exact List.getElem_mem h3')]
    have hwd : tl (txt ws k) = (D.drop i).take m := by
      rw [← h4, txt_eq h3']
      simp [List.getD, h3']
    have hl : (ovr z (tl (txt ws k)) (i - 0)).length = D.length := by rw [ovr_len _ _ _ (by omega), hz]
    refine puts_id hT D H (fun y hy => hs y (by simp [hy])) (ovr z (tl (txt ws k)) (i - 0)) hl (fun j hj => ?_)
    rw [ovr_get _ _ _ _ (by omega)]
    by_cases hc : i - 0 ≤ j ∧ j < i - 0 + (tl (txt ws k)).length
    · rw [if_pos hc, hwd]
      simp only [List.getD, List.getElem?_take, List.getElem?_drop]
      rw [if_pos (by omega), show i + (j - (i - 0)) = j by omega]
    · rw [if_neg hc]
      refine h j (fun ⟨y, hy, q⟩ => ?_)
      rcases List.mem_cons.1 hy with rfl | hy
      · simp only [Int.toNat_natCast] at q
        omega
      · exact hj ⟨y, hy, q⟩
theorem hts_sth (L : List (List Nat)) (m : Nat) (d : List Nat) : ∀ x ∈ hts L m d, Sth L m d x := fun x hx => by
  obtain ⟨j, hj, rfl⟩ := List.getElem_of_mem hx
  have := hts_get L m d j hj
  rw [show (hts L m d).getD j (0, 0) = (hts L m d)[j] by simp [List.getD, hj]] at this
  exact this
theorem hts_hin (L : List (List Nat)) (m : Nat) (d : List Nat) (n : Nat) (hn : n = L.length) : ∀ x ∈ hts L m d, Hin 0 d.length m n x := fun x hx => by
  obtain ⟨i, k, h1, h2, h3, _⟩ := hts_sth L m d x hx
  exact ⟨i, k, h1, by omega, by omega, by omega⟩
/-- The way back. -/
theorem back_id (ws T : List ByteArray) (m : Nat) (hw : ∀ s ∈ ws, s.size = m) (hT : ∀ s ∈ T, s.size = m) (hl : T.length = ws.length) (D : List Nat) : puts ws 0 (puts T 0 D (hts (ws.map tl) m D)) (hts (ws.map tl) m D) = D := by
  have hin := hts_hin (ws.map tl) m D T.length (by simp [hl])
  exact puts_id hw D _ (hts_sth _ _ _) _ (puts_len hT _ _ hin) (fun j hj => puts_out hT _ _ hin j hj)
theorem ovP_hts (L : List (List Nat)) (m : Nat) (D : List Nat) : ovP 0 m (hts L m D) = if 0 < ov (hts L m D) (m : Int) then (((hts L m D).getD (ov (hts L m D) (m : Int)).toNat (0, 0)).1, true) else (0, false) := by
  unfold ovP
  rw [if_neg]
  intro ⟨h, h2⟩
  obtain ⟨i, k, h1, _⟩ := hts_get L m D 0 h
  rw [h1] at h2
  simp only at h2
  omega
end Go.Proofs.Ytceaklefdahfkab
