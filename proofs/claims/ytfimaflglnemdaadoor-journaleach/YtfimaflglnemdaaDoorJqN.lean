/- Several texts in one: JzS, JzC, JzD. -/
import Derived.Test.YtfimaflglnemdaaDoorJqC
import Derived.Test.YtfimaflglnemdaaDoorJqM
import Derived.Test.YtfimaflglnemdaaDoorJdW
import Derived.Test.YtfimaflglnemdaaDoorJyA
/- The journal's rows: the law's sameDisk of equal disks. -/
namespace Go.Proofs.YtfimaflglnemdaaDoor
open Go.RowKit
open JM
set_option maxRecDepth 20000
attribute [local go_sem ↓] toCvS in
set_option maxRecDepth 100000 in
theorem same_eq {W : World} {a b a' b' : Value} {p q : List Nat} (ha : Bl W a p) (hb : Bl W b q) (ha' : Bl W a' p) (hb' : Bl W b' q) : Calls Tryd.prog 26 #[.agg #[a, b], .agg #[a', b']] W fun e w' => e = .returned (.bool true) ∧ Below W.heap.size W w' := by
  obtain ⟨W2, hW2⟩ : ∃ W2, (W.alloc (.cells #[a, b] 26)).alloc (.cells #[a', b'] 26) = W2 := ⟨_, rfl⟩
  have b2 : Below W.heap.size W W2 := by rw [← hW2]; exact below2 _ _ _
  have k1 := cv_bl (ha.below b2)
  have k2 := cv_bl (hb.below b2)
  have k3 := cv_bl (ha'.below b2)
  have k4 := cv_bl (hb'.below b2)
  obtain ⟨o1, c1, h1, -⟩ := ha
  obtain ⟨o2, c2, h2, -⟩ := hb
  obtain ⟨o3, c3, h3, -⟩ := ha'
  obtain ⟨o4, c4, h4, -⟩ := hb'
  obtain ⟨n, hn⟩ : ∃ n, p.length = n := ⟨_, rfl⟩
  obtain ⟨m, hm⟩ : ∃ n, q.length = n := ⟨_, rfl⟩
  obtain ⟨S, hS⟩ : ∃ S, mkS p = S := ⟨_, rfl⟩
  obtain ⟨T, hT⟩ : ∃ S, mkS q = S := ⟨_, rfl⟩
  rw [hS] at k1 k3
  rw [hT] at k2 k4
  rw [hn] at h1 h3
  rw [hm] at h2 h4
  subst h1 h2 h3 h4
  have HB : Hid (Below W.heap.size W W2) := b2
  rw [← hW2] at k1 k2 k3 k4
  have HW : Hid (_ = W2) := hW2
  clear hW2 b2 hn hm hS hT
  go_enter Tryd.func26, Tryd.ntmps26
  go_wp2_with fail
  go_ret
  exact ⟨rfl, by rw [HW.out]; exact HB.out⟩
end Go.Proofs.YtfimaflglnemdaaDoor

/- The journal's rows: what a crash leaves at a moment: the mathematics of a compaction; the law's sameDisk. -/
namespace Go.Proofs.YtfimaflglnemdaaDoor
open Go.RowKit
open JM
set_option maxRecDepth 20000
namespace Dev
theorem cutP_zero (p : List Nat × Nat) : (cutP p 0).1 = p.1.take p.2 := by
  unfold cutP keepN
  simp
theorem fl_cut (x : Sp) (k0 k1 i : Nat) : fl (cutP x.1 k0, cutP x.2 k1) i = if i = 0 then cutP x.1 k0 else cutP x.2 k1 := rfl
theorem cut_all {x : Sp} {i : Nat} (h : (fl x i).2 = (fl x i).1.length) : (fl (cutP x.1 0, cutP x.2 0) i).1 = (fl x i).1 := by
  unfold fl at h ⊢
  split
  · rename_i hi
    rw [if_pos hi] at h
    show (cutP x.1 0).1 = x.1.1
    rw [cutP_zero _, h, List.take_length]
  · rename_i hi
    rw [if_neg hi] at h
    show (cutP x.2 0).1 = x.2.1
    rw [cutP_zero _, h, List.take_length]
theorem cut_none {x : Sp} {i : Nat} (h : (fl x i).2 = 0) : (fl (cutP x.1 0, cutP x.2 0) i).1 = [] := by
  unfold fl at h ⊢
  split
  · rename_i hi
    rw [if_pos hi] at h
    show (cutP x.1 0).1 = []
    rw [cutP_zero _, h, List.take_zero]
  · rename_i hi
    rw [if_neg hi] at h
    show (cutP x.2 0).1 = []
    rw [cutP_zero _, h, List.take_zero]
/-- Both files hold a journal: the younger one is told. -/
theorem rep_both {x : Sp} {live o gen first first2 : Nat} {base base2 : List (List Nat)} {bs : List (List (List Nat))} (hl : o + live = 1) (h2 : (fl x live).1 = journalw gen first base bs) (h3 : (fl x o).1 = journalw (gen + 1) first2 base2 []) (g1 : 1 ≤ gen) (g2 : gen ≤ 1000) (f1 : 1 ≤ first) (f2 : first + bs.length ≤ 1000) (e1 : 1 ≤ first2) (e2 : first2 ≤ 1000) (hb : Gl base) (hbs : ∀ b ∈ bs, Gl b) (hb2 : Gl base2) (hlen : (journalw gen first base bs).length ≤ 67108864) (hlen2 : (journalw (gen + 1) first2 base2 []).length ≤ 67108864) :
    rep x.1.1 x.2.1 = .story o ⟨true, true, (journalw (gen + 1) first2 base2 []).length, gen + 1, first2, base2, [], []⟩ := by
  have hf := file_journal (gen := gen) (first := first) (base := base) (bs := bs) g1 (by omega) f1 (by omega) (by omega) hb hbs
  have hf2 := file_journal (gen := gen + 1) (first := first2) (base := base2) (bs := []) (by omega) (by omega) e1 (by simp; omega) (by omega) hb2 (fun b h => (by cases h))
  obtain ⟨rfl, rfl⟩ | ⟨rfl, rfl⟩ : (live = 0 ∧ o = 1) ∨ (live = 1 ∧ o = 0) := by omega
  · have q0 : x.1.1 = journalw gen first base bs := h2
    have q1 : x.2.1 = journalw (gen + 1) first2 base2 [] := h3
    rw [q0, q1, rep_pick (by omega) (by rw [hf]) (by omega) (by rw [hf2]), hf, hf2]
    unfold pick
    simp
  · have q0 : x.2.1 = journalw gen first base bs := h2
    have q1 : x.1.1 = journalw (gen + 1) first2 base2 [] := h3
    rw [q0, q1, rep_pick (by omega) (by rw [hf2]) (by omega) (by rw [hf]), hf, hf2]
    unfold pick
    simp
end Dev
end Go.Proofs.YtfimaflglnemdaaDoor

/- JournalAgain: the mathematics of its moments. -/
namespace Go.Proofs.YtfimaflglnemdaaDoor
open Go.RowKit
open JM
set_option maxRecDepth 20000
namespace Dev
theorem rss_clean {x : Sp} {live n : Nat} (h1 : (fl x live).1.length ≤ n) (h2 : (fl x (1 - live)).1 = []) : rss x live n = [] := by
  have e1 : trs x live n = [] := if_neg (by omega)
  have e2 : trx x live n = x := if_neg (by omega)
  unfold rss
  rw [e1, e2, List.nil_append]
  exact if_neg (by rw [h2]; simp)
/-- A device made of a disk with a journal: its only moment. -/
def mo0 (x : Sp) : Sp := ((x.1.1, x.1.1.length), (x.2.1, x.2.1.length))
theorem fl_mo0 (x : Sp) (i : Nat) : fl (mo0 x) i = ((fl x i).1, (fl x i).1.length) := by
  unfold fl mo0
  split <;> rfl
theorem Jq.bytes {live gen first : Nat} {base : List (List Nat)} {bs : List (List (List Nat))} {x : Sp} (h : Jq live gen first base bs) (fx : (fl x live).1 = journalw gen first base bs) (fo : (fl x (1 - live)).1 = []) : Byt x.1.1 ∧ Byt x.2.1 ∧ x.1.1.length ≤ 1052844 ∧ x.2.1.length ≤ 1052844 ∧ rep x.1.1 x.2.1 = .story live ⟨true, true, (journalw gen first base bs).length, gen, first, base, bs, []⟩ := by
  have hb := byt_journalw (gen := gen) (first := first) h.gb h.gs
  have hr := rep_of h.lv fx fo h.g1 h.g2 h.f1 h.f2 h.gb h.gs (by have := h.len; omega)
  have hlv := h.lv
  have hl := h.len2
  refine ⟨?_, ?_, ?_, ?_, hr⟩
  all_goals
    obtain e | e : live = 0 ∨ live = 1 := by omega
    all_goals
      subst e
      first
        | (rw [show x.1.1 = journalw gen first base bs from fx]; assumption)
        | (rw [show x.2.1 = journalw gen first base bs from fx]; assumption)
        | (rw [show x.1.1 = [] from fo]; first | (intro y hy; cases hy) | exact Nat.zero_le _)
        | (rw [show x.2.1 = [] from fo]; first | (intro y hy; cases hy) | exact Nat.zero_le _)
theorem rep_big {x : Sp} {live gen first : Nat} {base : List (List Nat)} (hl : live ≤ 1) (h2 : (fl x live).1 = journalw gen first base []) (h3 : (fl x (1 - live)).1 = []) (g1 : 1 ≤ gen) (g2 : gen ≤ 1001) (f1 : 1 ≤ first) (f2 : first ≤ 1001) (hb : Gl base) (hlen : (journalw gen first base []).length ≤ 67108864) :
    rep x.1.1 x.2.1 = .story live ⟨true, true, (journalw gen first base []).length, gen, first, base, [], []⟩ := by
  have hf := file_journal (gen := gen) (first := first) (base := base) (bs := []) g1 (by omega) f1 (by simp; omega) (by omega) hb (fun b h => (by cases h))
  obtain rfl | rfl : live = 0 ∨ live = 1 := by omega
  · have e0 : x.1.1 = journalw gen first base [] := h2
    have e1 : x.2.1 = [] := h3
    rw [e0, e1, rep_pick (by omega) (by rw [hf]) (by decide) (by rw [file_nil]), hf, file_nil]
    rfl
  · have e0 : x.2.1 = journalw gen first base [] := h2
    have e1 : x.1.1 = [] := h3
    rw [e0, e1, rep_pick (by decide) (by rw [file_nil]) (by omega) (by rw [hf]), hf, file_nil]
    rfl
theorem sp_bytes {y : Sp} {live o N : Nat} {A B : List Nat} (hl : o + live = 1) (ha : (fl y live).1 = A) (hb : (fl y o).1 = B) (bA : Byt A) (bB : Byt B) (lA : A.length ≤ N) (lB : B.length ≤ N) : Byt y.1.1 ∧ Byt y.2.1 ∧ y.1.1.length ≤ N ∧ y.2.1.length ≤ N := by
  obtain ⟨rfl, rfl⟩ | ⟨rfl, rfl⟩ : (live = 0 ∧ o = 1) ∨ (live = 1 ∧ o = 0) := by omega
  · have e0 : y.1.1 = A := ha
    have e1 : y.2.1 = B := hb
    rw [e0, e1]
    exact ⟨bA, bB, lA, lB⟩
  · have e0 : y.2.1 = A := ha
    have e1 : y.1.1 = B := hb
    rw [e0, e1]
    exact ⟨bB, bA, lB, lA⟩
theorem sp_eq {y z : Sp} {live o : Nat} (hl : o + live = 1) (ha : (fl y live).1 = (fl z live).1) (hb : (fl y o).1 = (fl z o).1) : y.1.1 = z.1.1 ∧ y.2.1 = z.2.1 := by
  obtain ⟨rfl, rfl⟩ | ⟨rfl, rfl⟩ : (live = 0 ∧ o = 1) ∨ (live = 1 ∧ o = 0) := by omega
  · exact ⟨ha, hb⟩
  · exact ⟨hb, ha⟩
theorem Jh.at [Inhabited HoleT] {lo j v lim live gen last : Nat} {W : World} {sp : List Sp} (h : Jh lo W j v lim live gen last sp) (k : Nat) (x : Sp) (hx : sp[k]? = some x) : Calls Tryd.prog 25 #[.pointer (some ⟨v, 0, none⟩), .int .i64 (k : Int), .agg #[.int .i64 0, .int .i64 0]] W fun e w' => ∃ c, e = .returned (.tuple #[.agg c, .int .i64 0]) ∧ DkP W (cutP x.1 0, cutP x.2 0) c w' := by
  obtain ⟨lv, f, ms, h1⟩ := h.dv
  have := h.big
  have := h1.len
  exact At_good h1 k x hx (by omega) 0 0 (by decide) (by decide)
/-- What the moments of a compaction leave, once the power fails with no loose byte kept. -/
structure Cmp (live o gen first last Ln L2 : Nat) (base ls : List (List Nat)) (bs : List (List (List Nat))) (x1 x2 x3 : Sp) : Prop where
  r1 : rep (cutP x1.1 0).1 (cutP x1.2 0).1 = .story live ⟨true, true, Ln, gen, first, base, bs, []⟩
  r2 : rep (cutP x2.1 0).1 (cutP x2.2 0).1 = .story o ⟨true, true, L2, gen + 1, last + 1, ls, [], []⟩
  r3 : rep x3.1.1 x3.2.1 = .story o ⟨true, true, L2, gen + 1, last + 1, ls, [], []⟩
  e3 : (cutP x3.1 0).1 = x3.1.1 ∧ (cutP x3.2 0).1 = x3.2.1
  b1 : Byt (cutP x1.1 0).1 ∧ Byt (cutP x1.2 0).1 ∧ (cutP x1.1 0).1.length ≤ 1052844 ∧ (cutP x1.2 0).1.length ≤ 1052844
  b2 : Byt (cutP x2.1 0).1 ∧ Byt (cutP x2.2 0).1 ∧ (cutP x2.1 0).1.length ≤ 1052844 ∧ (cutP x2.2 0).1.length ≤ 1052844
  b3 : Byt x3.1.1 ∧ Byt x3.2.1 ∧ x3.1.1.length ≤ 1052844 ∧ x3.2.1.length ≤ 1052844
  n2 : 0 < (cutP x2.1 0).1.length ∧ 0 < (cutP x2.2 0).1.length
  z3 : (fl x3 live).1 = []
theorem cmp_of {x : Sp} {live o gen first last Ln : Nat} {base ls : List (List Nat)} {bs : List (List (List Nat))} (hq : Jq live gen first base bs) (fx : (fl x live).1 = journalw gen first base bs) (fo : (fl x (1 - live)).1 = []) (ho : o + live = 1) (hlast : first - 1 + bs.length = last) (hLn : (journalw gen first base bs).length = Ln) (hls : Gl ls) (hsz : sizes ls ≤ 40440) :
    Cmp live o gen first last Ln (basew (gen + 1) (last + 1) ls).length base ls bs (up (mo0 x) o (basew (gen + 1) (last + 1) ls, (fl (mo0 x) o).2)) (up (mo0 x) o (basew (gen + 1) (last + 1) ls, (basew (gen + 1) (last + 1) ls).length)) (up (up (mo0 x) o (basew (gen + 1) (last + 1) ls, (basew (gen + 1) (last + 1) ls).length)) live ([], 0)) := by
  have hlv := hq.lv
  have ho1 : 1 - live = o := by omega
  rw [ho1] at fo
  have hlen2 := hq.len2
  have hg1 := hq.g1
  have hg2 := hq.g2
  have hf1 := hq.f1
  have hf2 := hq.f2
  have eB : basew (gen + 1) (last + 1) ls = journalw (gen + 1) (last + 1) ls [] := by unfold journalw; rw [batchesw, List.append_nil]
  have lB : (basew (gen + 1) (last + 1) ls).length = 52 + sizes ls := basew_len _ _ _
  have bJ := byt_journalw (gen := gen) (first := first) hq.gb hq.gs
  have bB : Byt (basew (gen + 1) (last + 1) ls) := by rw [eB]; exact byt_journalw hls (fun b h => (by cases h))
  obtain ⟨J, hJ⟩ : ∃ J, journalw gen first base bs = J := ⟨_, rfl⟩
  obtain ⟨B, hB⟩ : ∃ B, basew (gen + 1) (last + 1) ls = B := ⟨_, rfl⟩
  have hne : live ≠ o := by omega
  rw [hJ] at fx hLn bJ
  rw [hB] at eB lB bB ⊢
  rw [hJ] at hlen2
  have m0l : fl (mo0 x) live = (J, J.length) := by rw [fl_mo0, fx]
  have m0o : fl (mo0 x) o = ([], 0) := by rw [fl_mo0, fo]; rfl
  have q1o : fl (up (mo0 x) o (B, (fl (mo0 x) o).2)) o = (B, 0) := by rw [fl_same, m0o]
  have q1l : fl (up (mo0 x) o (B, (fl (mo0 x) o).2)) live = (J, J.length) := by rw [fl_other (by omega) hlv hne, m0l]
  have q2o : fl (up (mo0 x) o (B, B.length)) o = (B, B.length) := fl_same _ _ _
  have q2l : fl (up (mo0 x) o (B, B.length)) live = (J, J.length) := by rw [fl_other (by omega) hlv hne, m0l]
  have q3o : fl (up (up (mo0 x) o (B, B.length)) live ([], 0)) o = (B, B.length) := by rw [fl_other hlv (by omega) (Ne.symm hne), q2o]
  have q3l : fl (up (up (mo0 x) o (B, B.length)) live ([], 0)) live = ([], 0) := fl_same _ _ _
  generalize up (up (mo0 x) o (B, B.length)) live ([], 0) = x3 at q3o q3l ⊢
  generalize up (mo0 x) o (B, (fl (mo0 x) o).2) = x1 at q1o q1l ⊢
  generalize up (mo0 x) o (B, B.length) = x2 at q2o q2l ⊢
  have y1l : (fl (cutP x1.1 0, cutP x1.2 0) live).1 = J := by rw [cut_all (by rw [q1l]), q1l]
  have y1o : (fl (cutP x1.1 0, cutP x1.2 0) o).1 = [] := cut_none (by rw [q1o])
  have y2l : (fl (cutP x2.1 0, cutP x2.2 0) live).1 = J := by rw [cut_all (by rw [q2l]), q2l]
  have y2o : (fl (cutP x2.1 0, cutP x2.2 0) o).1 = B := by rw [cut_all (by rw [q2o]), q2o]
  have y3l : (fl (cutP x3.1 0, cutP x3.2 0) live).1 = [] := cut_none (by rw [q3l])
  have y3o : (fl (cutP x3.1 0, cutP x3.2 0) o).1 = B := by rw [cut_all (by rw [q3o]), q3o]
  have nil : Byt [] := fun y h => (by cases h)
  refine ⟨?_, ?_, ?_, ?_, ?_, ?_, ?_, ?_, by rw [q3l]⟩
  · have := rep_of (x := (cutP x1.1 0, cutP x1.2 0)) hlv (y1l.trans hJ.symm) (by rw [ho1]; exact y1o) hg1 hg2 hf1 hf2 hq.gb hq.gs (by rw [hJ]; omega)
    rw [hJ, hLn] at this
    exact this
  · have := rep_both (x := (cutP x2.1 0, cutP x2.2 0)) ho (y2l.trans hJ.symm) (y2o.trans eB) hg1 hg2 hf1 hf2 (by omega) (by omega) hq.gb hq.gs hls (by rw [hJ]; omega) (by rw [← eB]; omega)
    rw [← eB] at this
    exact this
  · have := rep_big (x := x3) (live := o) (by omega) (by rw [q3o]; exact eB) (by rw [show 1 - o = live by omega, q3l]) (by omega) (by omega) (by omega) (by omega) hls (by rw [← eB]; omega)
    rw [← eB] at this
    exact this
  · exact sp_eq (y := (cutP x3.1 0, cutP x3.2 0)) ho (by rw [y3l, q3l]) (by rw [y3o, q3o])
  · exact sp_bytes (y := (cutP x1.1 0, cutP x1.2 0)) ho y1l y1o bJ nil (by omega) (Nat.zero_le _)
  · exact sp_bytes (y := (cutP x2.1 0, cutP x2.2 0)) ho y2l y2o bJ bB (by omega) (by omega)
  · exact sp_bytes (y := x3) ho (by rw [q3l]) (by rw [q3o]) nil bB (Nat.zero_le _) (by omega)
  · have hJ52 : 52 ≤ J.length := by have := journalw_len gen first base bs; rw [hJ] at this; omega
    obtain ⟨rfl, rfl⟩ | ⟨rfl, rfl⟩ : (live = 0 ∧ o = 1) ∨ (live = 1 ∧ o = 0) := by omega
    · have e0 : (cutP x2.1 0).1 = J := y2l
      have e1 : (cutP x2.2 0).1 = B := y2o
      rw [e0, e1]
      exact ⟨by omega, by omega⟩
    · have e0 : (cutP x2.2 0).1 = J := y2l
      have e1 : (cutP x2.1 0).1 = B := y2o
      rw [e0, e1]
      exact ⟨by omega, by omega⟩
end Dev
end Go.Proofs.YtfimaflglnemdaaDoor
