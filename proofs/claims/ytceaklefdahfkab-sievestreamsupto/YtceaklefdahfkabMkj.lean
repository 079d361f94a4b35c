/- Several texts in one: Mk1, Bk1, Mk2. -/
import Derived.Test.YtceaklefdahfkabSv9
import Derived.Test.YtceaklefdahfkabFn4
import Derived.Shelf.Strings.Repeat
import Derived.Shelf.Lay
import Derived.Ground.NamesProg
import Derived.BigRegion
import Derived.Test.YtceaklefdahfkabRwj
import Derived.Lib.ConvBytes
import Derived.Laws.BitsAllLaws
/- The sieve: strings.Repeat, slices.Repeat. -/
namespace Go.Proofs.Ytceaklefdahfkab
open Go.RowKit
shelf_lay Lays.n105 Nm 105 at Try as Try.repL
theorem repX : Builder.Extra Try.prog Try.repL_ren where
  sizeBuilder := by kernel_rfl
  liesBuilder := by kernel_rfl
  t5 := Try.repL.t5
  a5 := Try.repL.a5
  z5 := Try.repL.z5
  v5 := Try.repL.v5
  infoByte := by kernel_rfl
  cellsByte := by kernel_rfl
  sizeByte := by kernel_rfl
  neB5 := by decide
/-- So many zeros. -/
def zst (m : Nat) : ByteArray := ⟨(Lib.repeatL [0] m).toArray⟩
theorem zst_tl (m : Nat) : tl (zst m) = List.replicate m 0 := by
  induction m with
  | zero => rfl
  | succ m ih =>
    simp [tl, zst, Lib.repeatL] at ih ⊢
    rw [List.replicate_succ, ih]
theorem zst_size (m : Nat) : (zst m).size = m := by rw [← tl_len, zst_tl, List.length_replicate]
theorem srep_any (m : Nat) (hm : m ≤ 1073741824) (w : World) : Calls Try.prog 65 #[.string ⟨#[0]⟩, .int .i64 (m : Int)] w fun e w' => e = .returned (.string (zst m)) ∧ Below w.heap.size w w' :=
  Any.strings_Repeat Try.repL repX ⟨#[0]⟩ m w (by omega) (by show 1 * m ≤ _; omega)
theorem mul_1 (n : Nat) (hn : n ≤ 1073741824) (w : World) : Calls Try.prog 81 #[.int .u64 1, .int .u64 (n : Int)] w fun e w' => e = .returned (.tuple #[.int .u64 0, .int .u64 (n : Int)]) ∧ w' = w := by
  have := Any.bits_Mul (ρ := Try.repL_ren) (P := Try.prog) { Try.repL with } 1 n (by omega) (by omega) w
  rw [Nat.one_mul, Nat.div_eq_of_lt (by omega), Nat.mod_eq_of_lt (by omega)] at this
  exact this
def slT (v : Value) (lo hi mx : Option Value) : Sem Value := Instr.slice 22 v lo hi mx
theorem toSlT (v : Value) (lo hi mx : Option Value) : Instr.slice 22 v lo hi mx = slT v lo hi mx := rfl
theorem elemT : Try.prog.elem 22 = 9 := by kernel_rfl
theorem size9s : (Try.prog.info? 9).map (·.size) = some 1 := by kernel_rfl
theorem uT : Try.prog.underlying 22 = some (.slice (Try.prog.elem 22)) := by kernel_rfl
theorem run_cutTl (g n p : Nat) (h : p < n) (w : World) : (slT (.slice (some ⟨g, 0, none⟩) n n) (some (.int .i64 (p : Int))) none none).run Try.prog w = .ok (.slice (some ⟨g, p, none⟩) (n - p) (n - p)) w := by
  have := run_slice_l (P := Try.prog) w 22 (some ⟨g, 0, none⟩) n n uT .i64 (p : Int) (by omega) (by omega)
  unfold slT
  rw [this, elemT, run_size1 w size9s]
  simp only [Result.andThen, sliced, Int.toNat_natCast, Option.map_some, Nat.mul_one]
  rw [if_neg (by omega), Go.WideShapes.add_plain, Nat.zero_add]
theorem run_cutTh (g n p : Nat) (h : p ≤ n) (w : World) : (slT (.slice (some ⟨g, 0, none⟩) n n) none (some (.int .i64 (p : Int))) none).run Try.prog w = .ok (.slice (some ⟨g, 0, none⟩) p n) w := by
  have := run_slice_h (P := Try.prog) w 22 (some ⟨g, 0, none⟩) n n uT .i64 (p : Int) (by omega) (by omega)
  unfold slT
  rw [this, elemT, run_size1 w size9s]
  simp only [Result.andThen, sliced, Int.toNat_natCast, Nat.sub_zero, Nat.zero_mul]
  split
  · rfl
  · rw [Option.map_some, Go.WideShapes.add_plain]
def cpTt (ty : Nat) (vs : Array Value) : Sem Value := Builtin.copy_ #[22, 22] ty vs
theorem toCpTt (ty : Nat) (vs : Array Value) : Builtin.copy_ #[22, 22] ty vs = cpTt ty vs := rfl
/-- So many of one text, the rest empty. -/
def rpl (z : ByteArray) (n k : Nat) : List ByteArray := List.replicate k z ++ List.replicate (n - k) ⟨#[]⟩
theorem rpl_len (z : ByteArray) (n k : Nat) (h : k ≤ n) : (rpl z n k).length = n := by simp [rpl]; omega
theorem rpl_all (z : ByteArray) (n : Nat) : rpl z n n = List.replicate n z := by simp [rpl]
theorem sk_rpl (z : ByteArray) (n k c : Nat) : ((sk (rpl z n k)).toList.take k ++ List.replicate c (Value.string z) ++ (sk (rpl z n k)).toList.drop (k + c)).toArray = sk (rpl z n (k + c)) := by
  apply Array.ext'
  have h1 : (sk (rpl z n k)).toList = List.replicate k (Value.string z) ++ List.replicate (n - k) (Value.string ⟨#[]⟩) := by simp [sk, rpl]
  have h2 : (sk (rpl z n (k + c))).toList = List.replicate (k + c) (Value.string z) ++ List.replicate (n - (k + c)) (Value.string ⟨#[]⟩) := by simp [sk, rpl]
  rw [h1, h2]
  rw [List.take_left' (by simp), List.drop_append, List.drop_of_length_le (by simp), List.nil_append, List.length_replicate, show k + c - k = c by omega, List.drop_replicate, show n - k - c = n - (k + c) by omega, ← List.replicate_append_replicate]
theorem cp_rpl (W : World) (g n k c : Nat) (z : ByteArray) (hc : c = min k (n - k)) (hk : k < n) (hr : W.heap[g]? = some (.cells (sk (rpl z n k)) 9 (0, 0))) :
    (cpTt 3 #[.slice (some ⟨g, k, none⟩) (n - k) (n - k), .slice (some ⟨g, 0, none⟩) k n]).run Try.prog W = .ok (goInt c) (W.setRow g (sk (rpl z n (k + c)))) := by
  have hm : Nat.min k (n - k) = c := hc.symm
  have hsz : (sk (rpl z n k)).size = n := by simp [sk, rpl_len z n k (by omega)]
  have := run_copy_row (P := Try.prog) W 22 22 3 9 g k (n - k) (n - k) ⟨g, 0, none⟩ k n _ 9 (List.replicate c (Value.string z)) Try.underlying22 size9s hr (by rw [List.length_replicate, hm]) (fun j v hj => by
    have hj2 : j < c := by have := (List.getElem?_eq_some_iff.1 hj).1; simpa using this
    rw [List.getElem?_replicate, if_pos hj2] at hj
    rw [← Option.some.inj hj, Go.WideShapes.add_plain, Nat.zero_add, cell_of_row W _ _ _ _ _ hr, sk_get _ _ (by rw [rpl_len _ _ _ (by omega)]; omega)]
    have : txt (rpl z n k) j = z := by
      rw [txt_eq (by rw [rpl_len _ _ _ (by omega)]; omega)]
      simp only [rpl]
      rw [List.getElem_append_left (by simp; omega)]
      simp
    rw [this]) (by rw [List.length_replicate, hsz]; omega) (fun v hv => by rw [List.eq_of_mem_replicate hv]; rfl)
  rw [List.length_replicate, sk_rpl z n k c] at this
  exact this
theorem cp_one (W : World) (g n b : Nat) (z : ByteArray) (hn : 0 < n) (hr : W.heap[g]? = some (.cells (sk (rpl z n 0)) 9 (0, 0))) (hc : W.cell? ⟨b, 0, none⟩ = some (.string z)) :
    (cpTt 3 #[.slice (some ⟨g, 0, none⟩) n n, .slice (some ⟨b, 0, none⟩) 1 1]).run Try.prog W = .ok (.int .i64 1) (W.setRow g (sk (rpl z n 1))) := by
  have hsz : (sk (rpl z n 0)).size = n := by simp [sk, rpl_len z n 0 (by omega)]
  have := run_copy_row (P := Try.prog) W 22 22 3 9 g 0 n n ⟨b, 0, none⟩ 1 1 _ 9 [Value.string z] Try.underlying22 size9s hr (by show 1 = Nat.min 1 n; have : Nat.min 1 n = min 1 n := rfl; omega) (fun j v hj => by
    have : j = 0 := by have := (List.getElem?_eq_some_iff.1 hj).1; simp at this; omega
    subst this
    simp at hj
    rw [← hj, Go.WideShapes.add_plain]; exact hc) (by rw [hsz]; simp; omega) (fun v hv => by simp at hv; rw [hv]; rfl)
  have h2 := sk_rpl z n 0 1
  simp only [List.replicate_one, Nat.zero_add] at h2
  simp only [List.length_singleton, Nat.zero_add] at this
  rw [h2] at this
  exact this
theorem mkS_rpl (w : World) (n : Nat) (z : ByteArray) (hn : n ≤ 1099511627776) : ∃ w', (mkS (.int .i64 (n : Int)) (.int .i64 (n : Int))).run Try.prog w = .ok (.slice (some ⟨w.heap.size, 0, none⟩) n n) w' ∧ w'.heap[w.heap.size]? = some (.cells (sk (rpl z n 0)) 9 (0, 0)) ∧ Below w.heap.size w w' := by
  obtain ⟨w', h1, h2, h3⟩ := run_mkS w n hn
  exact ⟨w', h1, by rw [h2]; simp [sk, rpl], h3⟩
theorem rpl_st {g n : Nat} {z : ByteArray} {w : World} (hn : n ≤ 1099511627776) (h : w.heap[g]? = some (.cells (sk (rpl z n n)) 9 (0, 0))) : St (.slice (some ⟨g, 0, none⟩) n n) (List.replicate n z) w := by
  rw [rpl_all] at h
  refine .inr ⟨g, 0, n, by simp, by simp, by unfold maxLen; omega, (Array.getElem?_eq_some_iff.1 h).1, fun j s hj => ?_⟩
  have hjl : j < (List.replicate n z).length := (List.getElem?_eq_some_iff.1 hj).1
  rw [Nat.zero_add, cell_of_row w _ _ _ _ _ h, sk_get _ _ hjl, txt_eq hjl]
  rw [List.getElem?_eq_getElem hjl] at hj
  rw [Option.some.inj hj]
attribute [local go_sem ↓] toMkS toCpTt toSlT
set_option maxRecDepth 100000 in
set_option maxHeartbeats 1600000 in
theorem lrep_any (z : ByteArray) (n : Nat) (hn : n ≤ 1048576) (b : Nat) (w : World) (hb : w.heap[b]? = some (.cells #[.string z] 9 (0, 0))) :
    Calls Try.prog 66 #[.slice (some ⟨b, 0, none⟩) 1 1, .int .i64 (n : Int)] w fun e w' => ∃ v, e = .returned v ∧ St v (List.replicate n z) w' ∧ Below w.heap.size w w' ∧ (∀ k, v.ownBlock = some k → w.heap.size ≤ k) := by
  have C0 : Hid _ := mul_1 n (by omega) w
  obtain ⟨W0, r0, R0, B0⟩ := mkS_rpl w n z (by omega)
  have bz : b < w.heap.size := (Array.getElem?_eq_some_iff.1 hb).1
  have cb : W0.cell? ⟨b, 0, none⟩ = some (.string z) := (World.cell?_of_block (w := w) (B0.block b bz)).trans ((cell_of_row w b 0 _ _ _ hb).trans rfl)
  obtain ⟨g, hg⟩ : ∃ g, g = w.heap.size := ⟨_, rfl⟩
  have HG : Hid (g = w.heap.size) := hg
  rw [← hg] at r0 R0
  have hn0 : ¬ ((n : Int) < 0) := by omega
  have hnu : IntKind.u64.wrap (n : Int) = (n : Int) := by rw [wu]; omega
  have hni : IntKind.i64.wrap (n : Int) = (n : Int) := by rw [wi _ (by unfold I64; omega)]
  have hnb : ¬ ((9223372036854775807 : Int) < (n : Int)) := by omega
  by_cases h0 : 0 < n
  · have rc := cp_one W0 g n b z h0 R0 cb
    have HI0 : Hid ((W0.setRow g (sk (rpl z n 1))).heap[g]? = some (.cells (sk (rpl z n 1)) 9 (0, 0)) ∧ Below g w (W0.setRow g (sk (rpl z n 1)))) := ⟨setRow_heap _ _ _ _ _ _ R0, below_setRow (by rw [hg]; exact B0) (Nat.le_refl _) _⟩
    clear R0 B0 cb hb bz hg
    go_enter Try.func66, Try.ntmps66
    go_wp2_with fail
    refine Calls.mono C0.out ?_
    rintro e W ⟨rfl, rfl⟩
    go_wp2_with fail
    go_loopw [8] (fun kv wr => ∃ k : Nat, kv = .int .i64 (k : Int) ∧ 0 < k ∧ k ≤ n ∧ Hid (wr.heap[g]? = some (.cells (sk (rpl z n k)) 9 (0, 0)) ∧ Below g W wr)) (fun kv _ => n - (intOf kv).toNat)
    case atStart => exact ⟨1, rfl, by omega, by omega, HI0⟩
    case round =>
      clear HI0 rc r0 C0
      obtain ⟨k, rfl, hk0, hkn, HI⟩ := hrel
      by_cases hlt : k < n
      · have hk1 : (k : Int) < (n : Int) := by omega
        obtain ⟨D, hD⟩ : ∃ D, wr.drew = D := ⟨_, rfl⟩
        have hDr : D.heap[g]? = some (.cells (sk (rpl z n k)) 9 (0, 0)) := by rw [← hD]; exact HI.out.1
        have hDb : Below g W D := by rw [← hD]; exact Below.drewN' HI.out.2 1
        obtain ⟨c, hc⟩ : ∃ c, c = min k (n - k) := ⟨_, rfl⟩
        have rc := cp_rpl D g n k c z hc hlt hDr
        have r1 := run_cutTl g n k hlt
        have r2 := run_cutTh g n k hkn
        obtain ⟨q, hq⟩ : ∃ q, q = k + c := ⟨_, rfl⟩
        have f1 : (k : Int) + (c : Int) = (q : Int) := by omega
        have f2 : (q : Int) < 9223372036854775808 := by omega
        have hq1 : q ≤ n := by omega
        have hq2 : k < q := by omega
        rw [← hq] at rc
        have HI2 : Hid ((D.setRow g (sk (rpl z n q))).heap[g]? = some (.cells (sk (rpl z n q)) 9 (0, 0)) ∧ Below g W (D.setRow g (sk (rpl z n q)))) := ⟨setRow_heap _ _ _ _ _ _ hDr, below_setRow hDb (Nat.le_refl _) _⟩
        clear hDr hDb HI hq hc
        go_wp2_with fail
        go_big_region
        go_wp2
        exact ⟨⟨q, rfl, by omega, hq1, HI2⟩, by simp only [intOf]; omega⟩
      · have hk1 : ¬ ((k : Int) < (n : Int)) := by omega
        have hke : k = n := by omega
        have HE : Hid (St (.slice (some ⟨g, 0, none⟩) n n) (List.replicate n z) wr ∧ Below W.heap.size W wr ∧ (∀ k, (Value.slice (some ⟨g, 0, none⟩) n n).ownBlock = some k → W.heap.size ≤ k)) := by
          obtain ⟨h1, h2⟩ := HI.out
          rw [hke] at h1
          refine ⟨rpl_st (by omega) h1, by rw [← HG.out]; exact h2, fun k hk => ?_⟩
          have : g = k := by cases hk; rfl
          rw [← this, HG.out]; exact Nat.le_refl _
        clear HI hke
        go_wp2
        go_ret
        exact ⟨_, rfl, HE.out⟩
  · have hne : n = 0 := by omega
    subst hne
    have rc : (cpTt 3 #[.slice (some ⟨g, 0, none⟩) 0 0, .slice (some ⟨b, 0, none⟩) 1 1]).run Try.prog W0 = .ok (.int .i64 0) W0 := run_copy_none (P := Try.prog) W0 22 22 3 9 (some ⟨g, 0, none⟩) (some ⟨b, 0, none⟩) 0 0 1 1 (by kernel_rfl) (by kernel_rfl) rfl
    have HE : Hid (St (.slice (some ⟨g, 0, none⟩) 0 0) (List.replicate 0 z) W0 ∧ Below w.heap.size w W0 ∧ (∀ k, (Value.slice (some ⟨g, 0, none⟩) 0 0).ownBlock = some k → w.heap.size ≤ k)) := ⟨rpl_st (by omega) R0, B0, fun k hk => by
      have : g = k := by cases hk; rfl
      rw [← this, hg]; exact Nat.le_refl _⟩
    clear R0 B0 cb hb bz hg
    have r0' : (mkS (.int .i64 0) (.int .i64 0)).run Try.prog w = .ok (.slice (some ⟨g, 0, none⟩) 0 0) W0 := r0
    have C0' : Hid (Calls Try.prog 81 #[.int .u64 1, .int .u64 0] w fun e w' => e = .returned (.tuple #[.int .u64 0, .int .u64 0]) ∧ w' = w) := C0
    clear r0 C0 hnu hni hnb hn0 h0
    go_enter Try.func66, Try.ntmps66
    go_wp2_with fail
    refine Calls.mono C0'.out ?_
    rintro e W ⟨rfl, rfl⟩
    go_wp2_with fail
    go_loopw [8] (fun iv wr => iv = .int .i64 0 ∧ wr = W0) (fun _ _ => 0)
    case atStart => exact ⟨rfl, rfl⟩
    case round =>
      obtain ⟨rfl, rfl⟩ := hrel
      go_wp2
      go_ret
      exact ⟨_, rfl, HE.out⟩
end Go.Proofs.Ytceaklefdahfkab

/- SieveBack: sameHits of any two, New of words that are turned, and the way back. -/
namespace Go.Proofs.Ytceaklefdahfkab
open Go.RowKit
theorem pref_ne {l1 l2 : List (Int × Int)} {k : Nat} (h : l1.getD k (0, 0) ≠ l2.getD k (0, 0)) : l1 ≠ l2 := fun e => h (by rw [e])
theorem ext_hits {l1 l2 : List (Int × Int)} (hl : l1.length = l2.length) (h : ∀ j, j < l1.length → l1.getD j (0, 0) = l2.getD j (0, 0)) : l1 = l2 := by
  apply List.ext_getElem hl
  intro i h1 h2
  have := h i h1
  simpa [List.getD, h1, h2] using this
set_option maxRecDepth 100000 in
theorem same_gen (l1 l2 : List (Int × Int)) (v u : Value) (w : World) (hv : Hl v l1 w) (hu : Hl u l2 w) :
    Calls Try.prog 15 #[v, u] w fun e w' => e = .returned (.bool (decide (l1 = l2))) ∧ Below w.heap.size w w' := by
  obtain ⟨o, c, rfl, hl, ho⟩ := hv.form
  obtain ⟨o2, c2, rfl, _, ho2⟩ := hu.form
  clear hv hu
  have HO : Hid _ := ho
  have HO2 : Hid _ := ho2
  clear ho ho2
  by_cases hlen : l1.length = l2.length
  · have HLN : Hid (l1.length = l2.length) := hlen
    rw [← hlen] at HO2 ⊢
    clear hlen
    go_enter Try.func15, Try.ntmps15
    go_wp2_with fail
    go_loopw [5] (fun i wr => ∃ k : Nat, i = .int .i64 (k : Int) ∧ k ≤ l1.length ∧ Hid (∀ j, j < k → l1.getD j (0, 0) = l2.getD j (0, 0)) ∧ Below w.heap.size w wr) (fun i _ => l1.length - (intOf i).toNat)
    case atStart => exact ⟨0, rfl, by omega, fun j hj => by omega, Below.refl _ _⟩
    case round =>
      obtain ⟨k, rfl, hk, HE, hbl⟩ := hrel
      by_cases hlt : k < l1.length
      · obtain ⟨b, off, rfl, hb, hc⟩ := HO.out (by omega)
        obtain ⟨b2, off2, rfl, hb2, hc2⟩ := HO2.out (by omega)
        have hk1 : (k : Int) < (l1.length : Int) := by omega
        have hk0 : (0 : Int) ≤ (k : Int) := by omega
        have c1 := (World.cell?_of_block (w := w) (hbl.block b hb)).trans (hc k hlt).1
        have c2 := (World.cell?_of_block (w := w) (hbl.block b hb)).trans (hc k hlt).2
        have c3 := (World.cell?_of_block (w := w) (hbl.block b2 hb2)).trans (hc2 k hlt).1
        have c4 := (World.cell?_of_block (w := w) (hbl.block b2 hb2)).trans (hc2 k hlt).2
        have HB : Hid (Below w.heap.size w wr) := hbl
        clear hc hc2 hbl
        have HX : Hid (l1.getD k (0, 0) = l2.getD k (0, 0) → ∀ j, j < k + 1 → l1.getD j (0, 0) = l2.getD j (0, 0)) := fun h j hj => by
          rcases Nat.lt_or_ge j k with h2 | h2
          · exact HE.out j h2
          · rw [show j = k by omega]; exact h
        have HY : Hid (l1.getD k (0, 0) ≠ l2.getD k (0, 0) → decide (l1 = l2) = false) := fun h => decide_eq_false (pref_ne h)
        generalize l1.getD k (0, 0) = x at c1 c2 HX HY
        generalize l2.getD k (0, 0) = y at c3 c4 HX HY
        obtain ⟨x1, x2⟩ := x
        obtain ⟨y1, y2⟩ := y
        simp only at c1 c2 c3 c4
        by_cases h1 : x1 = y1
        · subst h1
          by_cases h2 : x2 = y2
          · subst h2
            have HZ : Hid _ := HX.out rfl
            clear HX HY HE
            go_wp2_with fail
            go_quiet (fail)
            go_wp2
            exact ⟨⟨k + 1, by rfl, by omega, HZ, Below.drewN' HB.out _⟩, by simp only [intOf]; omega⟩
          · have HZ : Hid (decide (l1 = l2) = false) := HY.out (fun e => h2 (congrArg Prod.snd e))
            clear HX HY HE
            go_wp2_with fail
            go_quiet (fail)
            go_wp2
            go_ret
            exact ⟨by rw [HZ.out]; rfl, Below.drewN' HB.out _⟩
        · have HZ : Hid (decide (l1 = l2) = false) := HY.out (fun e => h1 (congrArg Prod.fst e))
          clear HX HY HE
          go_wp2_with fail
          go_quiet (fail)
          go_wp2
          go_ret
          exact ⟨by rw [HZ.out]; rfl, Below.drewN' HB.out _⟩
      · have hk1 : ¬ ((k : Int) < (l1.length : Int)) := by omega
        have HZ : Hid (decide (l1 = l2) = true) := decide_eq_true (ext_hits HLN.out fun j hj => HE.out j (by omega))
        go_wp2
        go_ret
        exact ⟨by rw [HZ.out]; rfl, hbl⟩
  · have hlen' : ¬ ((l1.length : Int) = (l2.length : Int)) := by omega
    have HZ : Hid (decide (l1 = l2) = false) := decide_eq_false fun e => hlen (by rw [e])
    go_enter Try.func15, Try.ntmps15
    go_wp2
    go_ret
    exact ⟨by rw [HZ.out]; rfl, Below.refl _ _⟩
theorem nwp_ok (ws : List ByteArray) (m : Nat) (hp : Pt ws m) (hnd : (ws.map tl).Nodup) (e : Ending) (w' : World) (h : NewP ws e w') :
    ∃ ns, NewOk ws ns ∧ ∃ g gt, e = .returned (.tuple #[.pointer (some ⟨g, 0, none⟩), .int .i64 0]) ∧ Sve g gt w' ∧ TabK w'.heap.size gt (ftT ((wdS ws ns).map tl) ns m) w' := by
  have hw := hp.wdO
  have hl := hp.ln
  rcases h with ⟨h1, _⟩ | ⟨_, h1, _⟩ | ⟨_, _, ns, hs, ⟨i, hi, ht⟩, _⟩ | ⟨_, _, ns, hok, g, gt, he, h1, h2⟩
  · omega
  · rw [hw] at h1; cases h1
  · have q1 := hs.lt i (by omega)
    have q2 := hs.lt (i + 1) (by omega)
    have hnn : ns.Nodup := hs.perm.nodup_iff.2 List.nodup_range
    have hnl := hs.len
    rw [txt_eq q1, txt_eq q2] at ht
    have h3 : (ws.map tl)[ns.getD i 0]'(by simpa using q1) = (ws.map tl)[ns.getD (i + 1) 0]'(by simpa using q2) := by rw [List.getElem_map, List.getElem_map]; exact ht
    have := (List.getElem_inj (h₀ := by simpa using q1) (h₁ := by simpa using q2) hnd).1 h3
    have e1 : ns.getD i 0 = ns[i]'(by omega) := by simp [List.getD, show i < ns.length by omega]
    have e2 : ns.getD (i + 1) 0 = ns[i + 1]'(by omega) := by simp [List.getD, show i + 1 < ns.length by omega]
    rw [e1, e2] at this
    have := (List.getElem_inj (h₀ := by omega) (h₁ := by omega) hnn).1 this
    omega
  · rw [hw] at h2
    exact ⟨ns, hok, g, gt, he, h1, h2⟩
/-- Bytes turned. -/
def xr (u : Nat) (l : List Nat) : List Nat := l.map fun a => a ^^^ u
theorem xr_len (u : Nat) (l : List Nat) : (xr u l).length = l.length := by simp [xr]
theorem xb_lt {a u : Nat} (ha : a < 256) (hu : u < 256) : a ^^^ u < 256 := Nat.xor_lt_two_pow (n := 8) ha hu
theorem xr_byt {u : Nat} (hu : u < 256) {l : List Nat} (hl : Byt l) : Byt (xr u l) := fun x hx => by
  obtain ⟨a, ha, rfl⟩ := List.mem_map.1 hx
  exact xb_lt (hl a ha) hu
theorem xr_inj {u : Nat} {a b : List Nat} (h : xr u a = xr u b) : a = b := by
  have : (fun x => x ^^^ u) ∘ (fun x => x ^^^ u) = id := by funext x; simp [Nat.xor_assoc]
  have h2 := congrArg (List.map fun x => x ^^^ u) h
  simpa [xr, this] using h2
def tos (u : Nat) (ws : List ByteArray) : List ByteArray := ws.map fun s => bst (xr u (tl s))
theorem tos_len (u : Nat) (ws : List ByteArray) : (tos u ws).length = ws.length := by simp [tos]
theorem tos_size (u : Nat) (ws : List ByteArray) (m : Nat) (h : ∀ s ∈ ws, s.size = m) : ∀ s ∈ tos u ws, s.size = m := fun s hs => by
  obtain ⟨a, ha, rfl⟩ := List.mem_map.1 hs
  rw [bst_size, xr_len, tl_len]; exact h a ha
theorem tos_pt {u : Nat} {ws : List ByteArray} {m : Nat} (h : Pt ws m) : Pt (tos u ws) m := ⟨fun e => h.ne (by have := congrArg List.length e; rw [tos_len] at this; exact List.length_eq_zero_iff.1 this), h.m0, h.m1, by rw [tos_len]; exact h.ln, tos_size u ws m h.sz⟩
theorem tos_all {u : Nat} {ws : List ByteArray} {m : Nat} (h : Pt ws m) : allW m (tos u ws) = true := by
  unfold allW
  rw [List.all_eq_true]
  intro s hs
  exact decide_eq_true (tos_size u ws m h.sz s hs)
theorem pt_all {ws : List ByteArray} {m : Nat} (h : Pt ws m) : allW m ws = true := by
  unfold allW
  rw [List.all_eq_true]
  intro s hs
  exact decide_eq_true (h.sz s hs)
theorem tos_nodup {u : Nat} (hu : u < 256) {ws : List ByteArray} (h : (ws.map tl).Nodup) : ((tos u ws).map tl).Nodup := by
  have e : (tos u ws).map tl = (ws.map tl).map (xr u) := by
    simp only [tos, List.map_map]
    apply List.map_congr_left
    intro s _
    simp only [Function.comp]
    exact tl_bst _ (xr_byt hu (tl_byt s))
  rw [e]
  exact List.Pairwise.map _ (fun a b hab hx => hab (xr_inj hx)) h
theorem ovr_get (l e : List Nat) (o j : Nat) (h : o + e.length ≤ l.length) : (ovr l e o).getD j 0 = if o ≤ j ∧ j < o + e.length then e.getD (j - o) 0 else l.getD j 0 := by
  have hl : (l.take o).length = o := by rw [List.length_take]; omega
  unfold ovr
  by_cases h1 : j < o
  · rw [if_neg (by omega)]
    simp only [List.getD]
    rw [List.append_assoc, List.getElem?_append_left (by omega), List.getElem?_take, if_pos h1]
  · by_cases h2 : j < o + e.length
    · rw [if_pos ⟨by omega, h2⟩]
      simp only [List.getD]
      rw [List.getElem?_append_left (by rw [List.length_append]; omega), List.getElem?_append_right (by omega), hl]
    · rw [if_neg (by omega)]
      simp only [List.getD]
      rw [List.getElem?_append_right (by rw [List.length_append]; omega), List.getElem?_drop, List.length_append, hl]
      congr 2
      omega
/-- A place that some hit covers. -/
def Cov (H : List (Int × Int)) (m j : Nat) : Prop := ∃ x ∈ H, x.1.toNat ≤ j ∧ j < x.1.toNat + m
theorem puts_out {T : List ByteArray} {m : Nat} (hT : ∀ s ∈ T, s.size = m) : ∀ (H : List (Int × Int)) (t : List Nat), (∀ x ∈ H, Hin 0 t.length m T.length x) → ∀ j, ¬ Cov H m j → (puts T 0 t H).getD j 0 = t.getD j 0
  | [], _, _, _, _ => rfl
  | x :: H, t, h, j, hj => by
    obtain ⟨i, k, rfl, h1, h2, h3⟩ := h x (by simp)
    have hsz : (tl (txt T k)).length = m := by rw [tl_len, hT _ (by rw [txt_eq h3]; exact List.getElem_mem h3)]
    have hl : (ovr t (tl (txt T k)) (i - 0)).length = t.length := ovr_len _ _ _ (by omega)
    have := puts_out hT H (ovr t (tl (txt T k)) (i - 0)) (fun y hy => by rw [hl]; exact h y (by simp [hy])) j (fun ⟨y, hy, q⟩ => hj ⟨y, by simp [hy], q⟩)
    have e : (puts T 0 t (((i : Int), (k : Int)) :: H)) = puts T 0 (ovr t (tl (txt T k)) (i - 0)) H := rfl
    rw [e, this, ovr_get _ _ _ _ (by omega), if_neg]
    intro hq
    exact hj ⟨((i : Int), (k : Int)), by simp, by simp only [Int.toNat_natCast]; omega, by simp only [Int.toNat_natCast]; omega⟩
theorem puts_id {ws : List ByteArray} {m : Nat} (hT : ∀ s ∈ ws, s.size = m) (D : List Nat) : ∀ (H : List (Int × Int)), (∀ x ∈ H, Sth (ws.map tl) m D x) → ∀ z : List Nat, z.length = D.length → (∀ j, ¬ Cov H m j → z.getD j 0 = D.getD j 0) → puts ws 0 z H = D
  | [], _, z, hz, h => by
    show z = D
    apply List.ext_getElem hz
    intro i h1 h2
    have := h i (fun ⟨x, hx, _⟩ => by cases hx)
    simpa [List.getD, h1, h2] using this
  | x :: H, hs, z, hz, h => by
    obtain ⟨i, k, rfl, h2, h3, h4⟩ := hs x (by simp)
    have h3' : k < ws.length := by simpa using h3
    have hsz : (tl (txt ws k)).length = m := by rw [tl_len, hT _ (by rw [txt_eq h3']; exact List.getElem_mem h3')]
    have hwd : tl (txt ws k) = (D.drop i).take m := by
      rw [← h4, txt_eq h3']
      simp [List.getD, h3']
    have hl : (ovr z (tl (txt ws k)) (i - 0)).length = D.length := by rw [ovr_len _ _ _ (by omega), hz]
    refine puts_id hT D H (fun y hy => hs y (by simp [hy])) (ovr z (tl (txt ws k)) (i - 0)) hl (fun j hj => ?_)
    rw [ovr_get _ _ _ _ (by omega)]
    by_cases hc : i - 0 ≤ j ∧ j < i - 0 + (tl (txt ws k)).length
    · rw [if_pos hc, hwd]
      simp only [List.getD, List.getElem?_take, List.getElem?_drop]
      rw [if_pos (by omega), show i + (j - (i - 0)) = j by omega]
    · rw [if_neg hc]
      refine h j (fun ⟨y, hy, q⟩ => ?_)
      rcases List.mem_cons.1 hy with rfl | hy
      · simp only [Int.toNat_natCast] at q
        omega
      · exact hj ⟨y, hy, q⟩
theorem hts_sth (L : List (List Nat)) (m : Nat) (d : List Nat) : ∀ x ∈ hts L m d, Sth L m d x := fun x hx => by
  obtain ⟨j, hj, rfl⟩ := List.getElem_of_mem hx
  have := hts_get L m d j hj
  rw [show (hts L m d).getD j (0, 0) = (hts L m d)[j] by simp [List.getD, hj]] at this
  exact this
theorem hts_hin (L : List (List Nat)) (m : Nat) (d : List Nat) (n : Nat) (hn : n = L.length) : ∀ x ∈ hts L m d, Hin 0 d.length m n x := fun x hx => by
  obtain ⟨i, k, h1, h2, h3, _⟩ := hts_sth L m d x hx
  exact ⟨i, k, h1, by omega, by omega, by omega⟩
/-- The way back. -/
theorem back_id (ws T : List ByteArray) (m : Nat) (hw : ∀ s ∈ ws, s.size = m) (hT : ∀ s ∈ T, s.size = m) (hl : T.length = ws.length) (D : List Nat) : puts ws 0 (puts T 0 D (hts (ws.map tl) m D)) (hts (ws.map tl) m D) = D := by
  have hin := hts_hin (ws.map tl) m D T.length (by simp [hl])
  exact puts_id hw D _ (hts_sth _ _ _) _ (puts_len hT _ _ hin) (fun j hj => puts_out hT _ _ hin j hj)
theorem ovP_hts (L : List (List Nat)) (m : Nat) (D : List Nat) : ovP 0 m (hts L m D) = if 0 < ov (hts L m D) (m : Int) then (((hts L m D).getD (ov (hts L m D) (m : Int)).toNat (0, 0)).1, true) else (0, false) := by
  unfold ovP
  rw [if_neg]
  intro ⟨h, h2⟩
  obtain ⟨i, k, h1, _⟩ := hts_get L m D 0 h
  rw [h1] at h2
  simp only at h2
  omega
end Go.Proofs.Ytceaklefdahfkab

/- The sieve: Masker, Mask. -/
namespace Go.Proofs.Ytceaklefdahfkab
open Go.RowKit
theorem zall (m n : Nat) : allW m (List.replicate n (zst m)) = true := by
  unfold allW
  rw [List.all_eq_true]
  intro s hs
  rw [List.eq_of_mem_replicate hs]
  exact decide_eq_true (zst_size m)
set_option maxRecDepth 100000 in
set_option maxHeartbeats 1600000 in
theorem masker_any (g gt : Nat) (t : Tbl) (hwd : t.width ≤ 64) (hvl : t.values.length ≤ 1048576) (w : World) (h : Sve g gt w) (ht : Tab gt t w) :
    Calls Try.prog 39 #[.pointer (some ⟨g, 0, none⟩)] w fun e w' => Below w.heap.size w w' ∧ ∃ gr tv, e = .returned (.pointer (some ⟨gr, 0, none⟩)) ∧ w.heap.size ≤ gr ∧ Rwt gr gt 0 0 0 tv 0 (List.replicate 63 0) w' ∧ St tv (List.replicate t.values.length (zst t.width)) w' ∧ tv.ownBlock ≠ some gr ∧ ∀ k, tv.ownBlock = some k → w.heap.size ≤ k := by
  have C0 : Hid (Calls Try.prog 53 #[.pointer (some ⟨g, 0, none⟩)] w fun e w' => e = .returned (.int .i64 (t.width : Int)) ∧ w' = w) := width_any g gt t w h ht
  have C1 : Hid (Calls Try.prog 65 #[.string ⟨#[0]⟩, .int .i64 (t.width : Int)] w fun e w' => e = .returned (.string (zst t.width)) ∧ Below w.heap.size w w') := srep_any t.width (by omega) w
  have C2 : Hid (∀ W, Below w.heap.size w W → Calls Try.prog 51 #[.pointer (some ⟨g, 0, none⟩)] W fun e w' => e = .returned (.int .i64 (t.values.length : Int)) ∧ w' = W) := fun W hb => len_any g gt t W ((hb.block g (Array.getElem?_eq_some_iff.1 h).1).trans h) (ht.below hb)
  have C3 : Hid (∀ W b, Below w.heap.size w W → W.heap[b]? = some (.cells #[.string (zst t.width)] 9 (0, 0)) → Calls Try.prog 66 #[.slice (some ⟨b, 0, none⟩) 1 1, .int .i64 (t.values.length : Int)] W fun e w' => ∃ v, e = .returned v ∧ St v (List.replicate t.values.length (zst t.width)) w' ∧ Below w.heap.size w w') := fun W b hb hr => (lrep_any (zst t.width) t.values.length hvl b W hr).mono fun e w' ⟨v, a, b, c, _⟩ => ⟨v, a, b, hb.trans (c.mono hb.size)⟩
  have C4 : Hid (∀ W v, Below w.heap.size w W → St v (List.replicate t.values.length (zst t.width)) W → Calls Try.prog 20 #[.pointer (some ⟨g, 0, none⟩), v] W fun e w' => ∃ gr tv, e = .returned (.tuple #[.pointer (some ⟨gr, 0, none⟩), .int .i64 0]) ∧ Hid (Below w.heap.size w w' ∧ w.heap.size ≤ gr ∧ Rwt gr gt 0 0 0 tv 0 (List.replicate 63 0) w' ∧ St tv (List.replicate t.values.length (zst t.width)) w' ∧ tv.ownBlock ≠ some gr ∧ ∀ k, tv.ownBlock = some k → w.heap.size ≤ k)) := fun W v hb hv => by
    refine (rewriter_any g gt t (List.replicate t.values.length (zst t.width)) (by simpa using hvl) v W ((hb.block g (Array.getElem?_eq_some_iff.1 h).1).trans h) (ht.below hb) hv).mono ?_
    rintro e w' ⟨hb2, hP⟩
    have hz := hb.size
    rcases hP with ⟨x1, -⟩ | ⟨-, x1, -⟩ | ⟨-, -, gr, tv, he, x3, x4, x5, x6, x7⟩
    · exact absurd (List.length_replicate ..) x1
    · rw [zall] at x1; cases x1
    · exact ⟨gr, tv, he, hb.trans (hb2.mono hz), by omega, x4, x5, x6, fun k hk => by have := x7 k hk; omega⟩
  clear h ht hvl hwd
  generalize t.values.length = n at *
  generalize zst t.width = z at *
  generalize t.width = m at *
  go_enter Try.func39, Try.ntmps39
  go_wp2_with fail
  refine Calls.mono C0.out ?_
  rintro e W ⟨rfl, rfl⟩
  clear C0
  go_wp2_with fail
  refine Calls.mono C1.out ?_
  rintro e W1 ⟨rfl, b1⟩
  clear C1
  obtain ⟨Wa, hWa⟩ : ∃ Wa, W1.alloc (.cells #[.string z] 9) = Wa := ⟨_, rfl⟩
  have ba : Below W.heap.size W Wa := by rw [← hWa]; exact b1.alloc b1.size _
  have ra : Wa.heap[W1.heap.size]? = some (.cells #[.string z] 9 (0, 0)) := by rw [← hWa]; exact heap_alloc_new W1 _
  have D2 : Hid _ := C2.out Wa ba
  have D3 : Hid _ := C3.out Wa W1.heap.size ba ra
  clear C2 C3 ba ra b1
  go_wp2_with fail
  clear hWa
  refine Calls.mono D2.out ?_
  rintro e W2 ⟨rfl, rfl⟩
  clear D2
  go_wp2_with fail
  refine Calls.mono D3.out ?_
  rintro e W3 ⟨v, rfl, hv, b3⟩
  clear D3
  have D4 : Hid _ := C4.out W3 v b3 hv
  clear C4 hv b3
  go_wp2_with fail
  refine Calls.mono D4.out ?_
  rintro e W4 ⟨gr, tv, rfl, HE⟩
  clear D4
  go_wp2
  go_ret
  exact ⟨HE.out.1, gr, tv, rfl, HE.out.2⟩
/-- What Mask answers. -/
def MkP (m nv : Nat) (D : List Nat) (H : List (Int × Int)) (B : Nat) (e : Ending) (w' : World) : Prop :=
  ((ovP 0 m H).2 = true ∧ e = .returned (.tuple #[.slice none 0 0, .slice none 0 0, .int .i64 52, .int .i64 (ovP 0 m H).1])) ∨
  ((ovP 0 m H).2 = false ∧ ∃ v hv, e = .returned (.tuple #[v, hv, .int .i64 0, .int .i64 0]) ∧ w'.ownsRow B 5 1 v D.length (ik .u8 (puts (List.replicate nv (zst m)) 0 D H)).toList ∧ w'.ownsRow B 39 2 hv H.length (hc H))
set_option maxRecDepth 100000 in
set_option maxHeartbeats 1600000 in
theorem mask_gen (g gt : Nat) (t : Tbl) (hwk : Wk t) (G : Nat → Prop) (hG : Gd t G) (hs0 : G 0) (m : Nat) (hwd : t.width = m) (hvl : t.values.length ≤ 1048576) (dv : Value) (D : List Nat) (hDb : Byt D) (hDl : D.length ≤ 1073741824) (w : World) (h : Sve g gt w) (ht : TabK w.heap.size gt t w) (hD : Si .u8 dv D w) (H : List (Int × Int)) (hH : fnd t 0 0 D = H) (hr : Rg H) (hin : ∀ x ∈ H, Hin 0 D.length m t.values.length x) (hm0 : 0 < H.length → 0 < m) :
    Calls Try.prog 14 #[.pointer (some ⟨g, 0, none⟩), dv] w fun e w' => Below w.heap.size w w' ∧ MkP m t.values.length D H w.heap.size e w' := by
  have C1 : Hid _ := masker_any g gt t hwk.wd hvl w h ht.tab
  have C2 : Hid (∀ gr tv W, Below w.heap.size w W → w.heap.size ≤ gr → Rwt gr gt 0 0 0 tv 0 (List.replicate 63 0) W → St tv (List.replicate t.values.length (zst t.width)) W → tv.ownBlock ≠ some gr → Calls Try.prog 49 #[.pointer (some ⟨gr, 0, none⟩), dv] W fun e w' => Hid (Below w.heap.size w w' ∧ MkP m t.values.length D H w.heap.size e w') ∧ ∃ a b c d, e = .returned (.tuple #[a, b, c, d])) := fun gr tv W hb hgr hR hTv hTg => by
    have hblk := hD.blk
    rw [hwd] at hTv
    have := take_any gr gt 0 0 0 tv 0 (List.replicate 63 0) (by simp) (List.replicate t.values.length (zst m)) m H hm0 (allW_all (zall _ _)) t hwk hwd G hG hs0 (by omega) (by omega) (by omega) D hDb hDl dv W hR ((ht.keep hb.size fun j hj _ => hb.block j hj).mono hgr) (hD.below hb) (fun e => by have := hblk _ e; omega) hTv hTg hH hr (fun x hx => by
      have := hin x hx
      simpa using this)
    simp only [Nat.zero_add, Nat.sub_zero, List.take_zero, List.nil_append] at this
    refine this.mono fun e w' ⟨hbt, hc⟩ => ?_
    have hbb := hb.trans (but_below hbt hgr hb.size)
    rcases hc with ⟨x1, x2, _⟩ | ⟨x1, v, hv, x2, x3, x4, _⟩
    · exact ⟨⟨hbb, .inl ⟨x1, x2⟩⟩, _, _, _, _, x2⟩
    · exact ⟨⟨hbb, .inr ⟨x1, v, hv, x2, own_down x3 hb.size, own_down x4 hb.size⟩⟩, _, _, _, _, x2⟩
  clear h ht hD hH hr hin hm0 hwk hG hs0 hDb hwd hvl
  go_enter Try.func14, Try.ntmps14
  go_wp2_with fail
  refine Calls.mono C1.out ?_
  rintro e W ⟨hb, gr, tv, rfl, x3, x4, x5, x6, _⟩
  have D2 : Hid _ := C2.out gr tv W hb x3 x4 x5 x6
  clear C1 C2 hb x3 x4 x5 x6
  go_wp2_with fail
  refine Calls.mono D2.out ?_
  rintro e W2 ⟨HE, a, b, c, d, rfl⟩
  clear D2
  go_wp2
  go_returns
  exact HE.out
theorem hts_hin' (L : List (List Nat)) (m : Nat) (d : List Nat) (n : Nat) (hn : n = L.length) : ∀ x ∈ hts L m d, Hin 0 d.length m n x := fun x hx => by
  obtain ⟨j, hj, rfl⟩ := List.getElem_of_mem hx
  have := hts_get L m d j hj
  rw [show (hts L m d).getD j (0, 0) = (hts L m d)[j] by simp [List.getD, hj]] at this
  obtain ⟨i, k, h1, h2, h3, _⟩ := this
  exact ⟨i, k, h1, by omega, by omega, by omega⟩
/-- Mask, of a sieve of such words. -/
theorem mask_hts (ws : List ByteArray) (m : Nat) (hp : Pt ws m) (ns : List Nat) (hn : NewOk ws ns) (g gt : Nat) (dv : Value) (D : List Nat) (hDb : Byt D) (hDl : D.length ≤ 1073741824) (w : World) (h : Sve g gt w) (ht : TabK w.heap.size gt (ftT ((wdS ws ns).map tl) ns m) w) (hD : Si .u8 dv D w) :
    Calls Try.prog 14 #[.pointer (some ⟨g, 0, none⟩), dv] w fun e w' => Below w.heap.size w w' ∧ MkP m ws.length D (hts (ws.map tl) m D) w.heap.size e w' := by
  have hw := hp.wd hn
  have hln := hp.ln
  have hl := wdS_len hn.1
  have hll : ((wdS ws ns).map tl).length = ws.length := by rw [List.length_map]; exact hl
  have hb : ∀ u ∈ (wdS ws ns).map tl, Byt u := fun u hu => by obtain ⟨s, _, rfl⟩ := List.mem_map.1 hu; exact tl_byt s
  have hv : ns.length = ((wdS ws ns).map tl).length := by rw [hn.1.len, hll]
  have hvl : (ftT ((wdS ws ns).map tl) ns m).values.length = ws.length := by
    show (lbS _ _).values.length = _
    rw [(lbS_same _ _).2.2.2.2]
    exact hn.1.len
  have hwd : (ftT ((wdS ws ns).map tl) ns m).width = m := by
    show (lbS _ _).width = _
    rw [(lbS_same _ _).2.2.1]
    rfl
  have := mask_gen g gt _ (hw.wk ns (by omega) hb hv hp.m1) _ (hw.gd ns (by omega) hb hv hp.m1) (gS_pos _ _ _) m hwd (by rw [hvl]; omega) dv D hDb hDl w h ht hD _ (hp.fnd hn D hDb) (hts_rg _ (by rw [List.length_map]; omega) m D (by omega)) (hts_hin' _ _ _ _ (by rw [hvl, List.length_map])) (fun _ => hp.m0)
  rw [hvl] at this
  exact this
end Go.Proofs.Ytceaklefdahfkab
