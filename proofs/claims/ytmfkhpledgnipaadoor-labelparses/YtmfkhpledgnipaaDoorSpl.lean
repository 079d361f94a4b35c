/- labelEnd, Split of a label's text with a way behind it, sameTexts. -/
import Derived.Test.YtmfkhpledgnipaaDoorWayM
namespace Go.Proofs.YtmfkhpledgnipaaDoor
open Go.RowKit
theorem ofL_list (l : List UInt8) : (ofL l).data.toList = l := by simp [ofL]
theorem ext_dropL (l : List UInt8) (n : Nat) : (ofL l).extract n (ofL l).size = ofL (l.drop n) := by rw [ext_drop, ofL_list]
theorem ext_takeL (l : List UInt8) (n : Nat) : (ofL l).extract 0 n = ofL (l.take n) := by rw [ext_take, ofL_list]
set_option maxHeartbeats 1000000 in
theorem lend_any (B W : List UInt8) (hB : noB 47 B) (hB0 : 0 < B.length) (hW : hd47 W) (hs : 13 + B.length + W.length ≤ 16384) (w : World) :
    Calls Tryd.prog 28 #[.string (ofL (store.data.toList ++ (B ++ W)))] w fun e w' => e = .returned (.int .i64 ((13 + B.length : Nat) : Int)) ∧ w' = w := by
  obtain ⟨T, hT⟩ : ∃ T, T = ofL (store.data.toList ++ (B ++ W)) := ⟨_, rfl⟩
  have hsz : T.size = 13 + B.length + W.length := by rw [hT, ofL_size]; simp [store]; omega
  have hx : T.extract 13 T.size = ofL (B ++ W) := by
    rw [hT, ext_dropL]; congr 1
  have hp := pre_app B W hB hW
  have hix : Lib.indexByte (ofL (B ++ W)).data.toList 47 = if B.length < (B ++ W).length then ((B.length : Nat) : Int) else -1 := by
    rw [ofL_list, ix_pre, hp]
  have h1 : ¬ ((T.size : Int) ≤ 13) := by omega
  have h2 : (13 : Int) ≤ (T.size : Int) := by omega
  have CX : Hid (∀ V, Calls Tryd.prog 40 #[.string (ofL (B ++ W)), .int .u8 47] V fun e w' => e = .returned (.int .i64 (if B.length < (B ++ W).length then ((B.length : Nat) : Int) else -1)) ∧ w' = V) := fun V => by
    have := ixb_any (ofL (B ++ W)) 47 V
    rw [show ((47 : Int).toNat.toUInt8) = 47 from rfl, hix] at this
    exact this
  have HZ : Hid (T.size = 13 + B.length + W.length) := hsz
  have hs' := hs
  rw [← hT]
  clear hT hix hp hsz hs
  go_enter Tryd.func28, Tryd.ntmps28
  by_cases hlt : B.length < (B ++ W).length
  · rw [if_pos hlt] at CX
    have h3 : (0 : Int) ≤ ((B.length : Nat) : Int) := by omega
    have h4 : IntKind.i64.wrap (13 + ((B.length : Nat) : Int)) = 13 + ((B.length : Nat) : Int) := by rw [IntKind.wrap_i64]; omega
    go_wp2_with fail
    refine (CX.out _).mono ?_
    rintro _ w' ⟨rfl, rfl⟩
    go_wp2_with fail
    go_ret
    exact ⟨by simp, rfl⟩
  · rw [if_neg hlt] at CX
    have hz : W.length = 0 := by simp at hlt; simp [hlt]
    have hsz' : Hid ((T.size : Int) = ((13 + B.length : Nat) : Int)) := by have := HZ.out; show (_ = _); omega
    clear hz
    go_wp2_with fail
    refine (CX.out _).mono ?_
    rintro _ w' ⟨rfl, rfl⟩
    go_wp2_with fail
    go_ret
    exact ⟨by rw [← hsz'.out]; rfl, rfl⟩
theorem spl_le : ∀ (f : Nat) (l : List UInt8) (k : Nat) (acc a : List (List UInt8)) (m : Nat), spl f l k acc = (a, some m) → m ≤ k + l.length
  | 0, _, _, _, _, _, h => by simp [spl] at h
  | f + 1, [], _, _, _, _, h => by simp [spl] at h
  | f + 1, b :: r, k, acc, a, m, h => by
    have hp := pre_len 47 r
    replace h : (if okS (pre 47 r) = true then spl f (r.drop (pre 47 r).length) (k + 1 + (pre 47 r).length) (acc ++ [pre 47 r]) else (acc, some (k + 1))) = (a, some m) := h
    by_cases ho : okS (pre 47 r) = true
    · rw [if_pos ho] at h
      have := spl_le f _ _ _ _ _ h
      rw [List.length_drop] at this
      simp
      omega
    · rw [if_neg ho] at h
      simp at h
      simp
      omega
theorem results_cell4 {fn : Func} {p u v x : Tmp} (h : fn.results = #[.cell p 25, .tmp u, .tmp v, .tmp x]) (tmps : Array Value) (w : World) (g : Nat) (k : List Nat) (t : ByteArray) (hk : k.length = 20)
    (hp : tmps.getD p undef = .pointer (some ⟨g, 0, none⟩)) (hg : w.heap[g]? = some (.cells (lab k t) 25 (0, 0))) :
    (results fn tmps).run Tryd.prog w = .ok (.tuple #[.agg (lab k t), tmps.getD u undef, tmps.getD v undef, tmps.getD x undef]) w := by
  have hp' : tmps[p]?.getD undef = .pointer (some ⟨g, 0, none⟩) := by simpa using hp
  simp [results, h, hp', asAddr, run_loadVar_row w g 25 25 (lab k t) (0, 0) _ hg under25 rfl (by rw [size25, lab_size k t hk])]
theorem run_build0 (w : World) : (buildR #[]).run Tryd.prog w = .ok (.agg none25) w := run_build w 25 _ _ (by kernel_rfl)
/-- What Split answers at a label's text with a way behind it. -/
def SpPost (h : List Nat) (nm : ByteArray) (W : List UInt8) (w : World) (e : Ending) (w' : World) : Prop :=
  Below w.heap.size w w' ∧ match spl W.length W 0 [] with
    | (acc, none) => ∃ v, e = .returned (.tuple #[.agg (lab h nm), v, .int .i64 0, .int .i64 0]) ∧ w'.ownsRow w.heap.size 9 1 v acc.length (ts acc)
    | (_, some k) => e = .returned (.tuple #[.agg none25, .slice none 0 0, .int .i64 32, .int .i64 ((46 + nm.size + k : Nat) : Int)])
attribute [local go_sem] zero25
attribute [local go_sem ↓] to25s to25l toBuild
set_option maxRecDepth 100000 in
set_option maxHeartbeats 3200000 in
theorem split_any (h : List Nat) (hb : Byt h) (hl : h.length = 20) (nm : ByteArray) (hok : okN nm = 0) (W : List UInt8) (hW : hd47 W) (hs : 46 + nm.size + W.length ≤ 16384) (w : World) (ht : Tx w) :
    Calls Tryd.prog 14 #[.string (ofL ((store ++ baseS h nm).data.toList ++ W))] w (SpPost h nm W w) := by
  obtain ⟨T, hT⟩ : ∃ T, T = ofL ((store ++ baseS h nm).data.toList ++ W) := ⟨_, rfl⟩
  have hBl : (baseS h nm).data.toList.length = 33 + nm.size := by rw [Array.length_toList]; exact baseS_size h nm hl
  have hPl : (store ++ baseS h nm).data.toList.length = 46 + nm.size := by rw [app_list, List.length_append, hBl]; simp [store]; omega
  have hsz : T.size = 46 + nm.size + W.length := by rw [hT, ofL_size, List.length_append, hPl]
  obtain ⟨n, hn⟩ : ∃ n, n = 46 + nm.size := ⟨_, rfl⟩
  have CL : Hid (∀ V, Calls Tryd.prog 28 #[.string T] V fun e w' => e = .returned (.int .i64 (n : Int)) ∧ w' = V) := fun V => by
    have := lend_any (baseS h nm).data.toList W (base_noB h nm hok) (by omega) hW (by omega) V
    rw [← List.append_assoc, ← app_list, ← hT, hBl, show 13 + (33 + nm.size) = n by omega] at this
    exact this
  obtain ⟨S, hS⟩ : ∃ S, S = store ++ baseS h nm := ⟨_, rfl⟩
  have CP : Hid (∀ V, Tx V → Calls Tryd.prog 12 #[.string S] V fun e w' => e = .returned (.tuple #[.agg (lab h nm), .int .i64 0, .int .i64 0]) ∧ Below V.heap.size V w') := fun V hV => by rw [hS]; exact parse_label h hb hl nm hok V hV
  have hx1 : T.extract 0 n = S := by
    rw [hT, ext_takeL, hS, List.take_left' (by omega)]; rfl
  have hx2 : T.extract n T.size = ofL W := by
    rw [hT, ext_dropL, List.drop_left' (by omega)]
  have CS : Hid (∀ V, Calls Tryd.prog 29 #[.string (ofL W)] V (StPost (ofL W) V)) := fun V => steps_any (ofL W) (by rw [ofL_size]; omega) V
  have h1 : ¬ (16384 : Int) < (T.size : Int) := by omega
  have h2 : (n : Int) ≤ (T.size : Int) := by omega
  have h3 : (0 : Int) ≤ (n : Int) := by omega
  have bel0 : Below w.heap.size w (w.alloc (.cells none25 25)) := (Below.refl _ w).alloc (Nat.le_refl _) _
  have HT : Hid (∀ V, Below w.heap.size w V → Tx V) := fun V hV => ht.below hV ht.sz
  have HB0 : Hid (Below w.heap.size w (w.alloc (.cells none25 25))) := bel0
  have HN : Hid (n = 46 + nm.size ∧ T.size = 46 + nm.size + W.length ∧ T.size ≤ 16384) := ⟨hn, hsz, by omega⟩
  rw [← hT]
  clear hT hS hsz hn hPl hBl hs ht bel0
  go_enter Tryd.func14, Tryd.ntmps14
  go_wp2_with fail
  refine (CL.out (w.alloc (.cells none25 25))).mono ?_
  obtain ⟨W0, hW0⟩ : ∃ V, V = w.alloc (.cells none25 25) := ⟨_, rfl⟩
  rw [← hW0]
  have r0 : Hid (W0.heap[w.heap.size]? = some (.cells none25 25 (0, 0))) := by rw [hW0]; exact heap_alloc_new _ _
  have b0 : Below w.heap.size w W0 := by rw [hW0]; exact HB0.out
  clear hW0 HB0
  rintro _ V ⟨rfl, rfl⟩
  go_wp2_with fail
  refine (CP.out _ (HT.out _ b0)).mono ?_
  rintro _ W1 ⟨rfl, b1⟩
  have hG : w.heap.size < V.heap.size := (Array.getElem?_eq_some_iff.1 r0.out).1
  have r1 : W1.heap[w.heap.size]? = some (.cells none25 25 (0, 0)) := (b1.block _ hG).trans r0.out
  have z1 : w.heap.size < W1.heap.size := (Array.getElem?_eq_some_iff.1 r1).1
  have bel1 : Below w.heap.size w W1 := b0.trans (b1.mono b0.size)
  have s1 : (storeR 25 (.pointer (some ⟨W1.heap.size, 0, none⟩)) (.agg (lab h nm))).run Tryd.prog (W1.alloc (.cells #[.int .u8 0, .int .u8 0, .int .u8 0, .int .u8 0, .int .u8 0, .int .u8 0, .int .u8 0, .int .u8 0, .int .u8 0, .int .u8 0, .int .u8 0, .int .u8 0, .int .u8 0, .int .u8 0, .int .u8 0, .int .u8 0, .int .u8 0, .int .u8 0, .int .u8 0, .int .u8 0, .string ⟨#[]⟩] 25)) = .ok () ((W1.alloc (.cells none25 25)).setRow W1.heap.size (lab h nm)) := run_storeR25 (W1.alloc (.cells none25 25)) W1.heap.size z20 h ⟨#[]⟩ nm (heap_alloc_new _ _) rfl hl
  obtain ⟨W2, hW2⟩ : ∃ W, W = (W1.alloc (.cells none25 25)).setRow W1.heap.size (lab h nm) := ⟨_, rfl⟩
  have rn : Hid (W2.heap[W1.heap.size]? = some (.cells (lab h nm) 25 (0, 0))) := by rw [hW2]; exact setRow_heap _ _ _ _ _ _ (heap_alloc_new _ _)
  have r2 : Hid (W2.heap[w.heap.size]? = some (.cells none25 25 (0, 0))) := by rw [hW2]; exact (setRow_other _ _ _ _ (by omega)).trans ((heap_alloc_old _ _ (h := z1)).trans r1)
  have bel2 : Below w.heap.size w W2 := by rw [hW2]; exact below_setRow (bel1.alloc (by omega) _) (by omega) _
  rw [← hW2] at s1
  clear hW2 r1 b1 bel1 r0 b0 hG
  have Z1 : Hid (w.heap.size < W1.heap.size) := z1
  clear z1
  go_wp2_with fail
  refine (CS.out _).mono ?_
  rintro e W3 ⟨b3, hif⟩
  have z2 : W1.heap.size < W2.heap.size := (Array.getElem?_eq_some_iff.1 rn.out).1
  have z1 := Z1.out
  have R3 : Hid (W3.heap[w.heap.size]? = some (.cells none25 25 (0, 0))) := (b3.block _ (by omega)).trans r2.out
  have RN3 : Hid (W3.heap[W1.heap.size]? = some (.cells (lab h nm) 25 (0, 0))) := (b3.block _ z2).trans rn.out
  have bel3 : Below w.heap.size w W3 := bel2.trans (b3.mono (by omega))
  have z23 : W2.heap.size ≤ W3.heap.size := b3.size
  rw [ofL_size, ofL_list] at hif
  obtain ⟨res, hres⟩ : ∃ r, spl W.length W 0 [] = r := ⟨_, rfl⟩
  rw [hres] at hif
  have HRES : Hid (spl W.length W 0 [] = res) := hres
  clear hres s1 rn r2 bel2 b3
  match res with
  | (acc, none) =>
    obtain ⟨v, rfl, hown⟩ := hif
    have l3 := run_loadR25 W3 W1.heap.size h nm RN3.out hl
    have s3 := run_storeR25 W3 w.heap.size z20 h ⟨#[]⟩ nm R3.out rfl hl
    have hfin : Hid ((W3.setRow w.heap.size (lab h nm)).heap[w.heap.size]? = some (.cells (lab h nm) 25 (0, 0))) := setRow_heap _ _ _ _ _ _ R3.out
    have bel4 : Below w.heap.size w (W3.setRow w.heap.size (lab h nm)) := below_setRow bel3 (Nat.le_refl _) _
    have hown' : Hid ((W3.setRow w.heap.size (lab h nm)).ownsRow w.heap.size 9 1 v acc.length (ts acc)) := by
      obtain ⟨hlen, hv⟩ := hown
      refine ⟨hlen, ?_⟩
      rcases hv with hv | ⟨g, cap, cur, h1, h2, h3, h4⟩
      · exact .inl hv
      · exact .inr ⟨g, cap, cur, h1, by omega, (setRow_other _ _ _ _ (by omega)).trans h3, h4⟩
    clear hown
    go_wp2_with fail
    refine bodyPost_ret (results_cell4 rfl _ _ w.heap.size h nm hl rfl hfin.out) rfl ⟨bel4, ?_⟩
    rw [HRES.out]
    exact ⟨v, rfl, hown'.out⟩
  | (acc, some k) =>
    replace hif : e = .returned (.tuple #[.slice none 0 0, .int .i64 32, .int .i64 (k : Int)]) := hif
    subst hif
    have hk : k ≤ 32768 := by have := spl_le _ _ _ _ _ _ HRES.out; have := HN.out; omega
    have hadd : IntKind.i64.wrap ((n : Int) + (k : Int)) = (n : Int) + (k : Int) := by rw [IntKind.wrap_i64]; have := HN.out; omega
    have s3 : (storeR 25 (.pointer (some ⟨w.heap.size, 0, none⟩)) (.agg none25)).run Tryd.prog W3 = .ok () (W3.setRow w.heap.size none25) := run_storeR25 W3 w.heap.size z20 z20 ⟨#[]⟩ ⟨#[]⟩ R3.out rfl rfl
    have b0 := run_build0
    have hfin : Hid ((W3.setRow w.heap.size none25).heap[w.heap.size]? = some (.cells none25 25 (0, 0))) := setRow_heap _ _ _ _ _ _ R3.out
    have bel4 : Below w.heap.size w (W3.setRow w.heap.size none25) := below_setRow bel3 (Nat.le_refl _) _
    go_wp2_with fail
    refine bodyPost_ret (results_cell4 rfl _ _ w.heap.size z20 ⟨#[]⟩ rfl rfl hfin.out) rfl ⟨bel4, ?_⟩
    rw [HRES.out]
    have hN := HN.out.1
    show _ = _
    simp [hN]
    rfl
/-- A slice of texts. -/
def Stl (v : Value) (l : List (List UInt8)) (w : World) : Prop :=
  ∃ o c, v = .slice o l.length c ∧ l.length ≤ c ∧ c ≤ 9223372036854775807 ∧ (0 < l.length → ∃ b off, o = some ⟨b, off, none⟩ ∧ b < w.heap.size ∧ ∀ j, j < l.length → w.cell? ⟨b, off + j, none⟩ = some (.string (ofL (l.getD j []))))
theorem Stl.below {v : Value} {l : List (List UInt8)} {w w' : World} (h : Stl v l w) (hb : Below w.heap.size w w') : Stl v l w' := by
  obtain ⟨o, c, rfl, h1, h2, h3⟩ := h
  refine ⟨o, c, rfl, h1, h2, fun hp => ?_⟩
  obtain ⟨b, off, ho, hlt, hc⟩ := h3 hp
  exact ⟨b, off, ho, by have := hb.size; omega, fun j hj => (hb.cell (p := ⟨b, off + j, none⟩) hlt).trans (hc j hj)⟩
theorem stl_own {w : World} {base n : Nat} {v : Value} {l : List (List UInt8)} (h : w.ownsRow base 9 1 v n (ts l)) : Stl v l w := by
  obtain ⟨hlen, h⟩ := h
  have hn : n = l.length := by simp [ts] at hlen; omega
  subst hn
  rcases h with ⟨rfl, h0⟩ | ⟨g, cap, cur, rfl, hg, hrow, hc, hm, hs, ht⟩
  · exact ⟨none, 0, by rw [h0], by omega, by omega, fun hp => by omega⟩
  · refine ⟨_, cap, rfl, hc, by unfold maxLen at hm; omega, fun _ => ⟨g, 0, rfl, (Array.getElem?_eq_some_iff.1 hrow).1, fun j hj => ?_⟩⟩
    rw [cell_of_row _ _ _ _ _ _ hrow, Nat.zero_add]
    have h1 : (cur.toList.take (l.length * 1))[j]? = (ts l)[j]? := by rw [ht]
    rw [List.getElem?_take_of_lt (by omega)] at h1
    rw [← Array.getElem?_toList, h1]
    simp [ts, hj, List.getD]
set_option maxHeartbeats 1000000 in
theorem same_any (a b : Value) (l : List (List UInt8)) (w : World) (ha : Stl a l w) (hb : Stl b l w) (hn : l.length ≤ 1048576) :
    Calls Tryd.prog 15 #[a, b] w fun e w' => e = .returned (.bool true) ∧ Below w.heap.size w w' := by
  obtain ⟨o, c, rfl, hc1, hc2, h3⟩ := ha
  obtain ⟨o', c', rfl, hc1', hc2', h3'⟩ := hb
  obtain ⟨n, hn'⟩ : ∃ n, n = l.length := ⟨_, rfl⟩
  rw [← hn'] at h3 h3' hn hc1 hc1' ⊢
  have H3 : Hid (0 < n → ∃ b off, o = some ⟨b, off, none⟩ ∧ b < w.heap.size ∧ ∀ j, j < n → w.cell? ⟨b, off + j, none⟩ = some (.string (ofL (l.getD j [])))) := h3
  have H3' : Hid (0 < n → ∃ b off, o' = some ⟨b, off, none⟩ ∧ b < w.heap.size ∧ ∀ j, j < n → w.cell? ⟨b, off + j, none⟩ = some (.string (ofL (l.getD j [])))) := h3'
  clear h3 h3' hn'
  go_enter Tryd.func15, Tryd.ntmps15
  go_wp2_with fail
  go_loopw [5] (fun i wr => ∃ k : Nat, i = .int .i64 (k : Int) ∧ k ≤ n ∧ Below w.heap.size w wr) (fun i _ => n - (intOf i).toNat)
  case atStart => exact ⟨0, rfl, by omega, Below.refl _ w⟩
  case round =>
    obtain ⟨k, rfl, hk, bel⟩ := hrel
    by_cases hlt : k < n
    · have hk0 : (0 : Int) ≤ (k : Int) := by omega
      have hk1 : (k : Int) < (n : Int) := by omega
      obtain ⟨b, off, rfl, hbl, hcl⟩ := H3.out (by omega)
      obtain ⟨b', off', rfl, hbl', hcl'⟩ := H3'.out (by omega)
      obtain ⟨x, hx⟩ : ∃ x, x = ofL (l.getD k []) := ⟨_, rfl⟩
      have cx : wr.cell? ⟨b, off + k, none⟩ = some (.string x) := by rw [hx]; exact (bel.cell (p := ⟨b, off + k, none⟩) hbl).trans (hcl k hlt)
      have cy : wr.cell? ⟨b', off' + k, none⟩ = some (.string x) := by rw [hx]; exact (bel.cell (p := ⟨b', off' + k, none⟩) hbl').trans (hcl' k hlt)
      clear hx hcl hcl' H3 H3'
      go_wp2
      go_quiet (fail)
      go_wp2
      go_roundw
      case rel => exact ⟨k + 1, by go_num, by omega, Below.drewN' bel _⟩
      case measure => simp [intOf]; omega
    · have hk1 : ¬ ((k : Int) < (n : Int)) := by omega
      go_wp2
      go_ret
      exact ⟨rfl, bel⟩
end Go.Proofs.YtmfkhpledgnipaaDoor
