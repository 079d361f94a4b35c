/- The sieve: Masker, Mask. -/
import Derived.Test.YtceaklefdahfkabRwJ
import Derived.Test.YtceaklefdahfkabMk1
namespace Go.Proofs.Ytceaklefdahfkab
open Go.RowKit
theorem zall (m n : Nat) : allW m (List.replicate n (zst m)) = true := by
  unfold allW
  rw [List.all_eq_true]
  intro s hs
  rw [List.eq_of_mem_replicate hs]
  exact decide_eq_true (zst_size m)
set_option maxRecDepth 100000 in
set_option maxHeartbeats 1600000 in
theorem masker_any (g gt : Nat) (t : Tbl) (hwd : t.width ≤ 64) (hvl : t.values.length ≤ 1048576) (w : World) (h : Sve g gt w) (ht : Tab gt t w) :
    Calls Try.prog 39 #[.pointer (some ⟨g, 0, none⟩)] w fun e w' => Below w.heap.size w w' ∧ ∃ gr tv, e = .returned (.pointer (some ⟨gr, 0, none⟩)) ∧ w.heap.size ≤ gr ∧ Rwt gr gt 0 0 0 tv 0 (List.replicate 63 0) w' ∧ St tv (List.replicate t.values.length (zst t.width)) w' ∧ tv.ownBlock ≠ some gr ∧ ∀ k, tv.ownBlock = some k → w.heap.size ≤ k := by
  have C0 : Hid (Calls Try.prog 53 #[.pointer (some ⟨g, 0, none⟩)] w fun e w' => e = .returned (.int .i64 (t.width : Int)) ∧ w' = w) := width_any g gt t w h ht
  have C1 : Hid (Calls Try.prog 65 #[.string ⟨#[0]⟩, .int .i64 (t.width : Int)] w fun e w' => e = .returned (.string (zst t.width)) ∧ Below w.heap.size w w') := srep_any t.width (by omega) w
  have C2 : Hid (∀ W, Below w.heap.size w W → Calls Try.prog 51 #[.pointer (some ⟨g, 0, none⟩)] W fun e w' => e = .returned (.int .i64 (t.values.length : Int)) ∧ w' = W) := fun W hb => len_any g gt t W ((hb.block g (Array.getElem?_eq_some_iff.1 h).1).trans h) (ht.below hb)
  have C3 : Hid (∀ W b, Below w.heap.size w W → W.heap[b]? = some (.cells #[.string (zst t.width)] 9 (0, 0)) → Calls Try.prog 66 #[.slice (some ⟨b, 0, none⟩) 1 1, .int .i64 (t.values.length : Int)] W fun e w' => ∃ v, e = .returned v ∧ St v (List.replicate t.values.length (zst t.width)) w' ∧ Below w.heap.size w w') := fun W b hb hr => (lrep_any (zst t.width) t.values.length hvl b W hr).mono fun e w' ⟨v, a, b, c, _⟩ => ⟨v, a, b, hb.trans (c.mono hb.size)⟩
  have C4 : Hid (∀ W v, Below w.heap.size w W → St v (List.replicate t.values.length (zst t.width)) W → Calls Try.prog 20 #[.pointer (some ⟨g, 0, none⟩), v] W fun e w' => ∃ gr tv, e = .returned (.tuple #[.pointer (some ⟨gr, 0, none⟩), .int .i64 0]) ∧ Hid (Below w.heap.size w w' ∧ w.heap.size ≤ gr ∧ Rwt gr gt 0 0 0 tv 0 (List.replicate 63 0) w' ∧ St tv (List.replicate t.values.length (zst t.width)) w' ∧ tv.ownBlock ≠ some gr ∧ ∀ k, tv.ownBlock = some k → w.heap.size ≤ k)) := fun W v hb hv => by
    refine (rewriter_any g gt t (List.replicate t.values.length (zst t.width)) (by simpa using hvl) v W ((hb.block g (Array.getElem?_eq_some_iff.1 h).1).trans h) (ht.below hb) hv).mono ?_
    rintro e w' ⟨hb2, hP⟩
    have hz := hb.size
    rcases hP with ⟨x1, -⟩ | ⟨-, x1, -⟩ | ⟨-, -, gr, tv, he, x3, x4, x5, x6, x7⟩
    · exact absurd (List.length_replicate ..) x1
    · rw [zall] at x1; cases x1
    · exact ⟨gr, tv, he, hb.trans (hb2.mono hz), by omega, x4, x5, x6, fun k hk => by have := x7 k hk; omega⟩
  clear h ht hvl hwd
  generalize t.values.length = n at *
  generalize zst t.width = z at *
  generalize t.width = m at *
  go_enter Try.func39, Try.ntmps39
  go_wp2_with fail
  refine Calls.mono C0.out ?_
  rintro e W ⟨rfl, rfl⟩
  clear C0
  go_wp2_with fail
  refine Calls.mono C1.out ?_
  rintro e W1 ⟨rfl, b1⟩
  clear C1
  obtain ⟨Wa, hWa⟩ : ∃ Wa, W1.alloc (.cells #[.string z] 9) = Wa := ⟨_, rfl⟩
  have ba : Below W.heap.size W Wa := by rw [← hWa]; exact b1.alloc b1.size _
  have ra : Wa.heap[W1.heap.size]? = some (.cells #[.string z] 9 (0, 0)) := by rw [← hWa]; exact heap_alloc_new W1 _
  have D2 : Hid _ := C2.out Wa ba
  have D3 : Hid _ := C3.out Wa W1.heap.size ba ra
  clear C2 C3 ba ra b1
  go_wp2_with fail
  clear hWa
  refine Calls.mono D2.out ?_
  rintro e W2 ⟨rfl, rfl⟩
  clear D2
  go_wp2_with fail
  refine Calls.mono D3.out ?_
  rintro e W3 ⟨v, rfl, hv, b3⟩
  clear D3
  have D4 : Hid _ := C4.out W3 v b3 hv
  clear C4 hv b3
  go_wp2_with fail
  refine Calls.mono D4.out ?_
  rintro e W4 ⟨gr, tv, rfl, HE⟩
  clear D4
  go_wp2
  go_ret
  exact ⟨HE.out.1, gr, tv, rfl, HE.out.2⟩
/-- What Mask answers. -/
def MkP (m nv : Nat) (D : List Nat) (H : List (Int × Int)) (B : Nat) (e : Ending) (w' : World) : Prop :=
  ((ovP 0 m H).2 = true ∧ e = .returned (.tuple #[.slice none 0 0, .slice none 0 0, .int .i64 52, .int .i64 (ovP 0 m H).1])) ∨
  ((ovP 0 m H).2 = false ∧ ∃ v hv, e = .returned (.tuple #[v, hv, .int .i64 0, .int .i64 0]) ∧ w'.ownsRow B 5 1 v D.length (ik .u8 (puts (List.replicate nv (zst m)) 0 D H)).toList ∧ w'.ownsRow B 39 2 hv H.length (hc H))
set_option maxRecDepth 100000 in
set_option maxHeartbeats 1600000 in
theorem mask_gen (g gt : Nat) (t : Tbl) (hwk : Wk t) (G : Nat → Prop) (hG : Gd t G) (hs0 : G 0) (m : Nat) (hwd : t.width = m) (hvl : t.values.length ≤ 1048576) (dv : Value) (D : List Nat) (hDb : Byt D) (hDl : D.length ≤ 1073741824) (w : World) (h : Sve g gt w) (ht : TabK w.heap.size gt t w) (hD : Si .u8 dv D w) (H : List (Int × Int)) (hH : fnd t 0 0 D = H) (hr : Rg H) (hin : ∀ x ∈ H, Hin 0 D.length m t.values.length x) (hm0 : 0 < H.length → 0 < m) :
    Calls Try.prog 14 #[.pointer (some ⟨g, 0, none⟩), dv] w fun e w' => Below w.heap.size w w' ∧ MkP m t.values.length D H w.heap.size e w' := by
  have C1 : Hid _ := masker_any g gt t hwk.wd hvl w h ht.tab
  have C2 : Hid (∀ gr tv W, Below w.heap.size w W → w.heap.size ≤ gr → Rwt gr gt 0 0 0 tv 0 (List.replicate 63 0) W → St tv (List.replicate t.values.length (zst t.width)) W → tv.ownBlock ≠ some gr → Calls Try.prog 49 #[.pointer (some ⟨gr, 0, none⟩), dv] W fun e w' => Hid (Below w.heap.size w w' ∧ MkP m t.values.length D H w.heap.size e w') ∧ ∃ a b c d, e = .returned (.tuple #[a, b, c, d])) := fun gr tv W hb hgr hR hTv hTg => by
    have hblk := hD.blk
    rw [hwd] at hTv
    have := take_any gr gt 0 0 0 tv 0 (List.replicate 63 0) (by simp) (List.replicate t.values.length (zst m)) m H hm0 (allW_all (zall _ _)) t hwk hwd G hG hs0 (by omega) (by omega) (by omega) D hDb hDl dv W hR ((ht.keep hb.size fun j hj _ => hb.block j hj).mono hgr) (hD.below hb) (fun e => by have := hblk _ e; omega) hTv hTg hH hr (fun x hx => by
      have := hin x hx
      simpa using this)
    simp only [Nat.zero_add, Nat.sub_zero, List.take_zero, List.nil_append] at this
    refine this.mono fun e w' ⟨hbt, hc⟩ => ?_
    have hbb := hb.trans (but_below hbt hgr hb.size)
    rcases hc with ⟨x1, x2, _⟩ | ⟨x1, v, hv, x2, x3, x4, _⟩
    · exact ⟨⟨hbb, .inl ⟨x1, x2⟩⟩, _, _, _, _, x2⟩
    · exact ⟨⟨hbb, .inr ⟨x1, v, hv, x2, own_down x3 hb.size, own_down x4 hb.size⟩⟩, _, _, _, _, x2⟩
  clear h ht hD hH hr hin hm0 hwk hG hs0 hDb hwd hvl
  go_enter Try.func14, Try.ntmps14
  go_wp2_with fail
  refine Calls.mono C1.out ?_
  rintro e W ⟨hb, gr, tv, rfl, x3, x4, x5, x6, _⟩
  have D2 : Hid _ := C2.out gr tv W hb x3 x4 x5 x6
  clear C1 C2 hb x3 x4 x5 x6
  go_wp2_with fail
  refine Calls.mono D2.out ?_
  rintro e W2 ⟨HE, a, b, c, d, rfl⟩
  clear D2
  go_wp2
  go_returns
  exact HE.out
theorem hts_hin' (L : List (List Nat)) (m : Nat) (d : List Nat) (n : Nat) (hn : n = L.length) : ∀ x ∈ hts L m d, Hin 0 d.length m n x := fun x hx => by
  obtain ⟨j, hj, rfl⟩ := List.getElem_of_mem hx
  have := hts_get L m d j hj
  rw [show (hts L m d).getD j (0, 0) = (hts L m d)[j] by simp [List.getD, hj]] at this
  obtain ⟨i, k, h1, h2, h3, _⟩ := this
  exact ⟨i, k, h1, by omega, by omega, by omega⟩
/-- Mask, of a sieve of such words. -/
theorem mask_hts (ws : List ByteArray) (m : Nat) (hp : Pt ws m) (ns : List Nat) (hn : NewOk ws ns) (g gt : Nat) (dv : Value) (D : List Nat) (hDb : Byt D) (hDl : D.length ≤ 1073741824) (w : World) (h : Sve g gt w) (ht : TabK w.heap.size gt (ftT ((wdS ws ns).map tl) ns m) w) (hD : Si .u8 dv D w) :
    Calls Try.prog 14 #[.pointer (some ⟨g, 0, none⟩), dv] w fun e w' => Below w.heap.size w w' ∧ MkP m ws.length D (hts (ws.map tl) m D) w.heap.size e w' := by
  have hw := hp.wd hn
  have hln := hp.ln
  have hl := wdS_len hn.1
  have hll : ((wdS ws ns).map tl).length = ws.length := by rw [List.length_map]; exact hl
  have hb : ∀ u ∈ (wdS ws ns).map tl, Byt u := fun u hu => by obtain ⟨s, _, rfl⟩ := List.mem_map.1 hu; exact tl_byt s
  have hv : ns.length = ((wdS ws ns).map tl).length := by rw [hn.1.len, hll]
  have hvl : (ftT ((wdS ws ns).map tl) ns m).values.length = ws.length := by
    show (lbS _ _).values.length = _
    rw [(lbS_same _ _).2.2.2.2]
    exact hn.1.len
  have hwd : (ftT ((wdS ws ns).map tl) ns m).width = m := by
    show (lbS _ _).width = _
    rw [(lbS_same _ _).2.2.1]
    rfl
  have := mask_gen g gt _ (hw.wk ns (by omega) hb hv hp.m1) _ (hw.gd ns (by omega) hb hv hp.m1) (gS_pos _ _ _) m hwd (by rw [hvl]; omega) dv D hDb hDl w h ht hD _ (hp.fnd hn D hDb) (hts_rg _ (by rw [List.length_map]; omega) m D (by omega)) (hts_hin' _ _ _ _ (by rw [hvl, List.length_map])) (fun _ => hp.m0)
  rw [hvl] at this
  exact this
end Go.Proofs.Ytceaklefdahfkab
