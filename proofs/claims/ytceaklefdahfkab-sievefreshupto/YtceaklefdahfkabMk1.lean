/- The sieve: strings.Repeat, slices.Repeat. -/
import Derived.Test.YtceaklefdahfkabSv9
import Derived.Test.YtceaklefdahfkabFnJ
import Derived.Shelf.Strings.Repeat
import Derived.Shelf.Lay
import Derived.Ground.NamesProg
import Derived.BigRegion
namespace Go.Proofs.Ytceaklefdahfkab
open Go.RowKit
shelf_lay Lays.n105 Nm 105 at Try as Try.repL
theorem repX : Builder.Extra Try.prog Try.repL_ren where
  sizeBuilder := by kernel_rfl
  liesBuilder := by kernel_rfl
  t5 := Try.repL.t5
  a5 := Try.repL.a5
  z5 := Try.repL.z5
  v5 := Try.repL.v5
  infoByte := by kernel_rfl
  cellsByte := by kernel_rfl
  sizeByte := by kernel_rfl
  neB5 := by decide
/-- So many zeros. -/
def zst (m : Nat) : ByteArray := ⟨(Lib.repeatL [0] m).toArray⟩
theorem zst_tl (m : Nat) : tl (zst m) = List.replicate m 0 := by
  induction m with
  | zero => rfl
  | succ m ih =>
    simp [tl, zst, Lib.repeatL] at ih ⊢
    rw [List.replicate_succ, ih]
theorem zst_size (m : Nat) : (zst m).size = m := by rw [← tl_len, zst_tl, List.length_replicate]
theorem srep_any (m : Nat) (hm : m ≤ 1073741824) (w : World) : Calls Try.prog 65 #[.string ⟨#[0]⟩, .int .i64 (m : Int)] w fun e w' => e = .returned (.string (zst m)) ∧ Below w.heap.size w w' :=
  Any.strings_Repeat Try.repL repX ⟨#[0]⟩ m w (by omega) (by show 1 * m ≤ _; omega)
theorem mul_1 (n : Nat) (hn : n ≤ 1073741824) (w : World) : Calls Try.prog 81 #[.int .u64 1, .int .u64 (n : Int)] w fun e w' => e = .returned (.tuple #[.int .u64 0, .int .u64 (n : Int)]) ∧ w' = w := by
  have := Any.bits_Mul (ρ := Try.repL_ren) (P := Try.prog) { Try.repL with } 1 n (by omega) (by omega) w
  rw [Nat.one_mul, Nat.div_eq_of_lt (by omega), Nat.mod_eq_of_lt (by omega)] at this
  exact this
def slT (v : Value) (lo hi mx : Option Value) : Sem Value := Instr.slice 22 v lo hi mx
theorem toSlT (v : Value) (lo hi mx : Option Value) : Instr.slice 22 v lo hi mx = slT v lo hi mx := rfl
theorem elemT : Try.prog.elem 22 = 9 := by kernel_rfl
theorem size9s : (Try.prog.info? 9).map (·.size) = some 1 := by kernel_rfl
theorem uT : Try.prog.underlying 22 = some (.slice (Try.prog.elem 22)) := by kernel_rfl
theorem run_cutTl (g n p : Nat) (h : p < n) (w : World) : (slT (.slice (some ⟨g, 0, none⟩) n n) (some (.int .i64 (p : Int))) none none).run Try.prog w = .ok (.slice (some ⟨g, p, none⟩) (n - p) (n - p)) w := by
  have := run_slice_l (P := Try.prog) w 22 (some ⟨g, 0, none⟩) n n uT .i64 (p : Int) (by omega) (by omega)
  unfold slT
  rw [this, elemT, run_size1 w size9s]
  simp only [Result.andThen, sliced, Int.toNat_natCast, Option.map_some, Nat.mul_one]
  rw [if_neg (by omega), Go.WideShapes.add_plain, Nat.zero_add]
theorem run_cutTh (g n p : Nat) (h : p ≤ n) (w : World) : (slT (.slice (some ⟨g, 0, none⟩) n n) none (some (.int .i64 (p : Int))) none).run Try.prog w = .ok (.slice (some ⟨g, 0, none⟩) p n) w := by
  have := run_slice_h (P := Try.prog) w 22 (some ⟨g, 0, none⟩) n n uT .i64 (p : Int) (by omega) (by omega)
  unfold slT
  rw [this, elemT, run_size1 w size9s]
  simp only [Result.andThen, sliced, Int.toNat_natCast, Nat.sub_zero, Nat.zero_mul]
  split
  · rfl
  · rw [Option.map_some, Go.WideShapes.add_plain]
def cpTt (ty : Nat) (vs : Array Value) : Sem Value := Builtin.copy_ #[22, 22] ty vs
theorem toCpTt (ty : Nat) (vs : Array Value) : Builtin.copy_ #[22, 22] ty vs = cpTt ty vs := rfl
/-- So many of one text, the rest empty. -/
def rpl (z : ByteArray) (n k : Nat) : List ByteArray := List.replicate k z ++ List.replicate (n - k) ⟨#[]⟩
theorem rpl_len (z : ByteArray) (n k : Nat) (h : k ≤ n) : (rpl z n k).length = n := by simp [rpl]; omega
theorem rpl_all (z : ByteArray) (n : Nat) : rpl z n n = List.replicate n z := by simp [rpl]
theorem sk_rpl (z : ByteArray) (n k c : Nat) : ((sk (rpl z n k)).toList.take k ++ List.replicate c (Value.string z) ++ (sk (rpl z n k)).toList.drop (k + c)).toArray = sk (rpl z n (k + c)) := by
  apply Array.ext'
  have h1 : (sk (rpl z n k)).toList = List.replicate k (Value.string z) ++ List.replicate (n - k) (Value.string ⟨#[]⟩) := by simp [sk, rpl]
  have h2 : (sk (rpl z n (k + c))).toList = List.replicate (k + c) (Value.string z) ++ List.replicate (n - (k + c)) (Value.string ⟨#[]⟩) := by simp [sk, rpl]
  rw [h1, h2]
  rw [List.take_left' (by simp), List.drop_append, List.drop_of_length_le (by simp), List.nil_append, List.length_replicate, show k + c - k = c by omega, List.drop_replicate, show n - k - c = n - (k + c) by omega, ← List.replicate_append_replicate]
theorem cp_rpl (W : World) (g n k c : Nat) (z : ByteArray) (hc : c = min k (n - k)) (hk : k < n) (hr : W.heap[g]? = some (.cells (sk (rpl z n k)) 9 (0, 0))) :
    (cpTt 3 #[.slice (some ⟨g, k, none⟩) (n - k) (n - k), .slice (some ⟨g, 0, none⟩) k n]).run Try.prog W = .ok (goInt c) (W.setRow g (sk (rpl z n (k + c)))) := by
  have hm : Nat.min k (n - k) = c := hc.symm
  have hsz : (sk (rpl z n k)).size = n := by simp [sk, rpl_len z n k (by omega)]
  have := run_copy_row (P := Try.prog) W 22 22 3 9 g k (n - k) (n - k) ⟨g, 0, none⟩ k n _ 9 (List.replicate c (Value.string z)) Try.underlying22 size9s hr (by rw [List.length_replicate, hm]) (fun j v hj => by
    have hj2 : j < c := by have := (List.getElem?_eq_some_iff.1 hj).1; simpa using this
    rw [List.getElem?_replicate, if_pos hj2] at hj
    rw [← Option.some.inj hj, Go.WideShapes.add_plain, Nat.zero_add, cell_of_row W _ _ _ _ _ hr, sk_get _ _ (by rw [rpl_len _ _ _ (by omega)]; omega)]
    have : txt (rpl z n k) j = z := by
      rw [txt_eq (by rw [rpl_len _ _ _ (by omega)]; omega)]
      simp only [rpl]
      rw [List.getElem_append_left (by simp; omega)]
      simp
    rw [this]) (by rw [List.length_replicate, hsz]; omega) (fun v hv => by rw [List.eq_of_mem_replicate hv]; rfl)
  rw [List.length_replicate, sk_rpl z n k c] at this
  exact this
theorem cp_one (W : World) (g n b : Nat) (z : ByteArray) (hn : 0 < n) (hr : W.heap[g]? = some (.cells (sk (rpl z n 0)) 9 (0, 0))) (hc : W.cell? ⟨b, 0, none⟩ = some (.string z)) :
    (cpTt 3 #[.slice (some ⟨g, 0, none⟩) n n, .slice (some ⟨b, 0, none⟩) 1 1]).run Try.prog W = .ok (.int .i64 1) (W.setRow g (sk (rpl z n 1))) := by
  have hsz : (sk (rpl z n 0)).size = n := by simp [sk, rpl_len z n 0 (by omega)]
  have := run_copy_row (P := Try.prog) W 22 22 3 9 g 0 n n ⟨b, 0, none⟩ 1 1 _ 9 [Value.string z] Try.underlying22 size9s hr (by show 1 = Nat.min 1 n; have : Nat.min 1 n = min 1 n := rfl; omega) (fun j v hj => by
    have : j = 0 := by have := (List.getElem?_eq_some_iff.1 hj).1; simp at this; omega
    subst this
    simp at hj
    rw [← hj, Go.WideShapes.add_plain]; exact hc) (by rw [hsz]; simp; omega) (fun v hv => by simp at hv; rw [hv]; rfl)
  have h2 := sk_rpl z n 0 1
  simp only [List.replicate_one, Nat.zero_add] at h2
  simp only [List.length_singleton, Nat.zero_add] at this
  rw [h2] at this
  exact this
theorem mkS_rpl (w : World) (n : Nat) (z : ByteArray) (hn : n ≤ 1099511627776) : ∃ w', (mkS (.int .i64 (n : Int)) (.int .i64 (n : Int))).run Try.prog w = .ok (.slice (some ⟨w.heap.size, 0, none⟩) n n) w' ∧ w'.heap[w.heap.size]? = some (.cells (sk (rpl z n 0)) 9 (0, 0)) ∧ Below w.heap.size w w' := by
  obtain ⟨w', h1, h2, h3⟩ := run_mkS w n hn
  exact ⟨w', h1, by rw [h2]; simp [sk, rpl], h3⟩
theorem rpl_st {g n : Nat} {z : ByteArray} {w : World} (hn : n ≤ 1099511627776) (h : w.heap[g]? = some (.cells (sk (rpl z n n)) 9 (0, 0))) : St (.slice (some ⟨g, 0, none⟩) n n) (List.replicate n z) w := by
  rw [rpl_all] at h
  refine .inr ⟨g, 0, n, by simp, by simp, by unfold maxLen; omega, (Array.getElem?_eq_some_iff.1 h).1, fun j s hj => ?_⟩
  have hjl : j < (List.replicate n z).length := (List.getElem?_eq_some_iff.1 hj).1
  rw [Nat.zero_add, cell_of_row w _ _ _ _ _ h, sk_get _ _ hjl, txt_eq hjl]
  rw [List.getElem?_eq_getElem hjl] at hj
  rw [Option.some.inj hj]
attribute [local go_sem ↓] toMkS toCpTt toSlT
set_option maxRecDepth 100000 in
set_option maxHeartbeats 1600000 in
theorem lrep_any (z : ByteArray) (n : Nat) (hn : n ≤ 1048576) (b : Nat) (w : World) (hb : w.heap[b]? = some (.cells #[.string z] 9 (0, 0))) :
    Calls Try.prog 66 #[.slice (some ⟨b, 0, none⟩) 1 1, .int .i64 (n : Int)] w fun e w' => ∃ v, e = .returned v ∧ St v (List.replicate n z) w' ∧ Below w.heap.size w w' ∧ (∀ k, v.ownBlock = some k → w.heap.size ≤ k) := by
  have C0 : Hid _ := mul_1 n (by omega) w
  obtain ⟨W0, r0, R0, B0⟩ := mkS_rpl w n z (by omega)
  have bz : b < w.heap.size := (Array.getElem?_eq_some_iff.1 hb).1
  have cb : W0.cell? ⟨b, 0, none⟩ = some (.string z) := (World.cell?_of_block (w := w) (B0.block b bz)).trans ((cell_of_row w b 0 _ _ _ hb).trans rfl)
  obtain ⟨g, hg⟩ : ∃ g, g = w.heap.size := ⟨_, rfl⟩
  have HG : Hid (g = w.heap.size) := hg
  rw [← hg] at r0 R0
  have hn0 : ¬ ((n : Int) < 0) := by omega
  have hnu : IntKind.u64.wrap (n : Int) = (n : Int) := by rw [wu]; omega
  have hni : IntKind.i64.wrap (n : Int) = (n : Int) := by rw [wi _ (by unfold I64; omega)]
  have hnb : ¬ ((9223372036854775807 : Int) < (n : Int)) := by omega
  by_cases h0 : 0 < n
  · have rc := cp_one W0 g n b z h0 R0 cb
    have HI0 : Hid ((W0.setRow g (sk (rpl z n 1))).heap[g]? = some (.cells (sk (rpl z n 1)) 9 (0, 0)) ∧ Below g w (W0.setRow g (sk (rpl z n 1)))) := ⟨setRow_heap _ _ _ _ _ _ R0, below_setRow (by rw [hg]; exact B0) (Nat.le_refl _) _⟩
    clear R0 B0 cb hb bz hg
    go_enter Try.func66, Try.ntmps66
    go_wp2_with fail
    refine Calls.mono C0.out ?_
    rintro e W ⟨rfl, rfl⟩
    go_wp2_with fail
    go_loopw [8] (fun kv wr => ∃ k : Nat, kv = .int .i64 (k : Int) ∧ 0 < k ∧ k ≤ n ∧ Hid (wr.heap[g]? = some (.cells (sk (rpl z n k)) 9 (0, 0)) ∧ Below g W wr)) (fun kv _ => n - (intOf kv).toNat)
    case atStart => exact ⟨1, rfl, by omega, by omega, HI0⟩
    case round =>
      clear HI0 rc r0 C0
      obtain ⟨k, rfl, hk0, hkn, HI⟩ := hrel
      by_cases hlt : k < n
      · have hk1 : (k : Int) < (n : Int) := by omega
        obtain ⟨D, hD⟩ : ∃ D, wr.drew = D := ⟨_, rfl⟩
        have hDr : D.heap[g]? = some (.cells (sk (rpl z n k)) 9 (0, 0)) := by rw [← hD]; exact HI.out.1
        have hDb : Below g W D := by rw [← hD]; exact Below.drewN' HI.out.2 1
        obtain ⟨c, hc⟩ : ∃ c, c = min k (n - k) := ⟨_, rfl⟩
        have rc := cp_rpl D g n k c z hc hlt hDr
        have r1 := run_cutTl g n k hlt
        have r2 := run_cutTh g n k hkn
        obtain ⟨q, hq⟩ : ∃ q, q = k + c := ⟨_, rfl⟩
        have f1 : (k : Int) + (c : Int) = (q : Int) := by omega
        have f2 : (q : Int) < 9223372036854775808 := by omega
        have hq1 : q ≤ n := by omega
        have hq2 : k < q := by omega
        rw [← hq] at rc
        have HI2 : Hid ((D.setRow g (sk (rpl z n q))).heap[g]? = some (.cells (sk (rpl z n q)) 9 (0, 0)) ∧ Below g W (D.setRow g (sk (rpl z n q)))) := ⟨setRow_heap _ _ _ _ _ _ hDr, below_setRow hDb (Nat.le_refl _) _⟩
        clear hDr hDb HI hq hc
        go_wp2_with fail
        go_big_region
        go_wp2
        exact ⟨⟨q, rfl, by omega, hq1, HI2⟩, by simp only [intOf]; omega⟩
      · have hk1 : ¬ ((k : Int) < (n : Int)) := by omega
        have hke : k = n := by omega
        have HE : Hid (St (.slice (some ⟨g, 0, none⟩) n n) (List.replicate n z) wr ∧ Below W.heap.size W wr ∧ (∀ k, (Value.slice (some ⟨g, 0, none⟩) n n).ownBlock = some k → W.heap.size ≤ k)) := by
          obtain ⟨h1, h2⟩ := HI.out
          rw [hke] at h1
          refine ⟨rpl_st (by omega) h1, by rw [← HG.out]; exact h2, fun k hk => ?_⟩
          have : g = k := by cases hk; rfl
          rw [← this, HG.out]; exact Nat.le_refl _
        clear HI hke
        go_wp2
        go_ret
        exact ⟨_, rfl, HE.out⟩
  · have hne : n = 0 := by omega
    subst hne
    have rc : (cpTt 3 #[.slice (some ⟨g, 0, none⟩) 0 0, .slice (some ⟨b, 0, none⟩) 1 1]).run Try.prog W0 = .ok (.int .i64 0) W0 := run_copy_none (P := Try.prog) W0 22 22 3 9 (some ⟨g, 0, none⟩) (some ⟨b, 0, none⟩) 0 0 1 1 (by kernel_rfl) (by kernel_rfl) rfl
    have HE : Hid (St (.slice (some ⟨g, 0, none⟩) 0 0) (List.replicate 0 z) W0 ∧ Below w.heap.size w W0 ∧ (∀ k, (Value.slice (some ⟨g, 0, none⟩) 0 0).ownBlock = some k → w.heap.size ≤ k)) := ⟨rpl_st (by omega) R0, B0, fun k hk => by
      have : g = k := by cases hk; rfl
      rw [← this, hg]; exact Nat.le_refl _⟩
    clear R0 B0 cb hb bz hg
    have r0' : (mkS (.int .i64 0) (.int .i64 0)).run Try.prog w = .ok (.slice (some ⟨g, 0, none⟩) 0 0) W0 := r0
    have C0' : Hid (Calls Try.prog 81 #[.int .u64 1, .int .u64 0] w fun e w' => e = .returned (.tuple #[.int .u64 0, .int .u64 0]) ∧ w' = w) := C0
    clear r0 C0 hnu hni hnb hn0 h0
    go_enter Try.func66, Try.ntmps66
    go_wp2_with fail
    refine Calls.mono C0'.out ?_
    rintro e W ⟨rfl, rfl⟩
    go_wp2_with fail
    go_loopw [8] (fun iv wr => iv = .int .i64 0 ∧ wr = W0) (fun _ _ => 0)
    case atStart => exact ⟨rfl, rfl⟩
    case round =>
      obtain ⟨rfl, rfl⟩ := hrel
      go_wp2
      go_ret
      exact ⟨_, rfl, HE.out⟩
end Go.Proofs.Ytceaklefdahfkab
