/- Several texts in one: JcM, JcA, JcB, JcC. -/
import Derived.Test.YtfimaflglnemdaaDoorJqN
/- JournalCrash: the mathematics: what may lie on a disk once the power has failed. -/
namespace Go.Proofs.YtfimaflglnemdaaDoor
open Go.RowKit
open JM
set_option maxRecDepth 20000
theorem bsizes_app : ∀ (a b : List (List (List Nat))), bsizes (a ++ b) = bsizes a + bsizes b
  | [], b => by simp [bsizes]
  | x :: r, b => by rw [List.cons_append, bsizes, bsizes, bsizes_app r b]; omega
theorem bsizes_part (bs : List (List (List Nat))) (k : Nat) : bsizes (bs.take k) ≤ bsizes bs := by
  have h := bsizes_app (bs.take k) (bs.drop k)
  rw [List.take_append_drop] at h
  omega
theorem journalw_snoc (gen first : Nat) (base : List (List Nat)) (bs : List (List (List Nat))) (b : List (List Nat)) : journalw gen first base (bs ++ [b]) = journalw gen first base bs ++ batchw (first + bs.length) b := by
  unfold journalw
  rw [Dev.batchesw_snoc, List.append_assoc]
/-- A journal's file with a torn batch behind it. -/
theorem file_tail {gen first m : Nat} {base b : List (List Nat)} {bs : List (List (List Nat))} (hm : m < 26 + sizes b) (g1 : 1 ≤ gen) (g2 : gen ≤ 1000000) (f1 : 1 ≤ first) (f2 : first + bs.length ≤ 1000000) (hb : Gl base) (hbs : ∀ b ∈ bs, Gl b) (hgb : Gl b) :
    ∃ pend, file crcN (journalw gen first base bs ++ (batchw (first + bs.length) b).take m) = (⟨true, true, (journalw gen first base bs).length, gen, first, base, bs, pend⟩, none) := by
  have e : (journalw gen first base (bs ++ [b])).take ((journalw gen first base bs).length + m) = journalw gen first base bs ++ (batchw (first + bs.length) b).take m := by
    rw [journalw_snoc, take_past (by omega), show (journalw gen first base bs).length + m - (journalw gen first base bs).length = m by omega]
  have hl := journalw_len gen first base bs
  have hl2 := journalw_len gen first base (bs ++ [b])
  have hs : bsizes (bs ++ [b]) = bsizes bs + (26 + sizes b) := by rw [bsizes_app]; simp [bsizes]
  rcases file_cut (gen := gen) (first := first) (base := base) (bs := bs ++ [b]) (m := (journalw gen first base bs).length + m) (by omega) g1 (by omega) f1 (by simp; omega) (by omega) hb (fun x hx => by
    rcases List.mem_append.1 hx with h | h
    · exact hbs x h
    · obtain rfl : x = b := by simpa using h
      exact hgb) with ⟨h, -⟩ | ⟨-, k, pend, hk, h1, h2, h3⟩
  · omega
  · have hlen : (bs ++ [b]).length = bs.length + 1 := by simp
    have hk2 : k = bs.length := by
      by_cases c1 : k ≤ bs.length
      · by_cases c2 : k = bs.length
        · exact c2
        · have h4 := h2 (by omega)
          rw [List.take_append_of_le_length (by omega)] at h4
          have := bsizes_part bs (k + 1)
          omega
      · have : k = (bs ++ [b]).length := by omega
        rw [this, List.take_length] at h1
        omega
    subst hk2
    rw [e, List.take_left, ← hl] at h3
    exact ⟨pend, h3⟩
/-- What the file that is not live may be. -/
inductive Oth (gen : Nat) : List Nat → Prop
  | nil : Oth gen []
  | torn (first : Nat) (ls : List (List Nat)) (m : Nat) : 1 ≤ first → first ≤ 1000000 → Gl ls → m < 52 + sizes ls → Oth gen ((basew (gen + 1) first ls).take m)
  | old (g first : Nat) (base : List (List Nat)) (bs : List (List (List Nat))) : 1 ≤ g → g < gen → 1 ≤ first → first + bs.length ≤ 1000000 → Gl base → (∀ b ∈ bs, Gl b) → Oth gen (journalw g first base bs)
theorem Oth.file {gen : Nat} {c : List Nat} (h : Oth gen c) (hg : gen ≤ 1000000) : ∃ t, file crcN c = (t, none) ∧ (t.live = false ∨ (t.live = true ∧ t.gen < gen)) := by
  cases h with
  | nil => exact ⟨St.new, Dev.file_nil, .inl rfl⟩
  | torn first ls m f1 f2 hl hm =>
    obtain ⟨s, h1, h2, -⟩ := cut_head (l := (basew (gen + 1) first ls).take m) (y := []) (gen := gen + 1) (first := first) (base := ls) (m := m) (by simp) hm (by omega) (by omega) f1 (by omega) hl
    exact ⟨s, h1, .inl h2⟩
  | old g first base bs g1 g2 f1 f2 hb hbs => exact ⟨_, file_journal g1 (by omega) f1 (by omega) (by omega) hb hbs, .inr ⟨rfl, g2⟩⟩
namespace Dev.Cr
/-- A disk with a journal, as a crash may leave it. -/
structure Lv (live gen first : Nat) (base : List (List Nat)) (bs : List (List (List Nat))) (y : Sp) : Prop where
  lv : live ≤ 1
  g1 : 1 ≤ gen
  g2 : gen ≤ 1000000
  f1 : 1 ≤ first
  f2 : first + bs.length ≤ 1000000
  gb : Gl base
  gs : ∀ b ∈ bs, Gl b
  tail : ∃ b m, Gl b ∧ m < 26 + sizes b ∧ (fl y live).1 = journalw gen first base bs ++ (batchw (first + bs.length) b).take m
  oth : Oth gen (fl y (1 - live)).1
theorem Lv.rep {live gen first : Nat} {base : List (List Nat)} {bs : List (List (List Nat))} {y : Sp} (h : Lv live gen first base bs y) (l0 : y.1.1.length ≤ 67108864) (l1 : y.2.1.length ≤ 67108864) : ∃ pend, Go.Proofs.YtfimaflglnemdaaDoor.rep y.1.1 y.2.1 = .story live ⟨true, true, (journalw gen first base bs).length, gen, first, base, bs, pend⟩ := by
  obtain ⟨b, m, hb, hm, e⟩ := h.tail
  obtain ⟨pend, hf⟩ := file_tail hm h.g1 h.g2 h.f1 h.f2 h.gb h.gs hb
  obtain ⟨t, ht, hl⟩ := h.oth.file h.g2
  have hlv := h.lv
  refine ⟨pend, ?_⟩
  rw [← e] at hf
  obtain rfl | rfl : live = 0 ∨ live = 1 := by omega
  · have hf : file crcN y.1.1 = _ := hf
    have ht : file crcN y.2.1 = _ := ht
    rw [rep_pick (by omega) (by rw [hf]) (by omega) (by rw [ht]), hf, ht]
    unfold pick
    rcases hl with hl | ⟨hl, hg⟩
    · simp [hl]
    · have q1 : ¬ gen = t.gen := by omega
      have q2 : ¬ gen < t.gen := by omega
      simp [hl, q1, q2]
  · have hf : file crcN y.2.1 = _ := hf
    have ht : file crcN y.1.1 = _ := ht
    rw [rep_pick (by omega) (by rw [ht]) (by omega) (by rw [hf]), hf, ht]
    unfold pick
    rcases hl with hl | ⟨hl, hg⟩
    · simp [hl]
    · have q1 : ¬ t.gen = gen := by omega
      simp [hl, q1, hg]
/-- A disk with none, as a crash may leave it: the first base may be torn. -/
def Em (y : Sp) : Prop := y.2.1 = [] ∧ ∃ m, m < 52 ∧ y.1.1 = (basew 1 1 []).take m
theorem Em.rep {y : Sp} (h : Em y) : Go.Proofs.YtfimaflglnemdaaDoor.rep y.1.1 y.2.1 = .none := by
  obtain ⟨e1, m, hm, e0⟩ := h
  rw [e0, e1]
  obtain ⟨s, h1, h2, -⟩ := cut_head (l := (basew 1 1 []).take m) (y := []) (gen := 1) (first := 1) (base := []) (m := m) (by simp) (by simpa [sizes] using hm) (by omega) (by omega) (by omega) (by omega) ⟨by simp, by simp⟩
  have h1 : file crcN ((basew 1 1 []).take m) = _ := h1
  have hl : ((basew 1 1 []).take m).length ≤ 52 := by rw [List.length_take]; omega
  rw [rep_pick (by omega) (by rw [h1]) (by simp) (by rw [file_nil]), h1, file_nil]
  unfold pick
  simp [h2, St.new]
/-- What the owner of a journal knows. -/
structure Bk where
  base : List (List Nat)
  batches : List (List (List Nat))
  last : Nat
/-- A disk that holds a book; N bounds its numbers. -/
def Dsk (N : Nat) (b : Bk) (y : Sp) : Prop := (Em y ∧ b = ⟨[], [], 0⟩) ∨ ∃ live gen first base bs, Lv live gen first base bs y ∧ b = ⟨base, bs, first - 1 + bs.length⟩ ∧ gen ≤ N ∧ first + bs.length ≤ N
theorem Dsk.mono {N M : Nat} {b : Bk} {y : Sp} (h : Dsk N b y) (hN : N ≤ M) : Dsk M b y := by
  rcases h with h | ⟨live, gen, first, base, bs, h1, h2, h3, h4⟩
  · exact .inl h
  · exact .inr ⟨live, gen, first, base, bs, h1, h2, Nat.le_trans h3 hN, Nat.le_trans h4 hN⟩
/-- What lies there once the power has failed, so many loose bytes kept. -/
def crash (y : Sp) (k0 k1 : Nat) : Sp := (cutP y.1 k0, cutP y.2 k1)
theorem fl_crash (y : Sp) (k0 k1 i : Nat) : fl (crash y k0 k1) i = cutP (fl y i) (if i = 0 then k0 else k1) := by
  unfold fl crash
  split <;> rfl
theorem cut_full (c : List Nat) (k : Nat) : (cutP (c, c.length) k).1 = c := by
  unfold cutP keepN
  simp
theorem cut_app (A B : List Nat) (k : Nat) : ∃ m, m ≤ B.length ∧ (cutP (A ++ B, A.length) k).1 = A ++ B.take m := by
  refine ⟨min k B.length, by omega, ?_⟩
  unfold cutP keepN
  show (A ++ B).take (A.length + min k ((A ++ B).length - A.length)) = _
  rw [take_past (by omega), List.length_append]
  congr 2
  omega
theorem cut_loose (c : List Nat) (k : Nat) : ∃ m, m ≤ c.length ∧ (cutP (c, 0) k).1 = c.take m := by
  obtain ⟨m, h1, h2⟩ := cut_app [] c k
  exact ⟨m, h1, by simpa using h2⟩
/-- A journal whose files are clean and safe. -/
structure Cln (live gen first : Nat) (base : List (List Nat)) (bs : List (List (List Nat))) (y : Sp) : Prop where
  lv : live ≤ 1
  g1 : 1 ≤ gen
  g2 : gen ≤ 999000
  f1 : 1 ≤ first
  f2 : first + bs.length ≤ 999000
  gb : Gl base
  gs : ∀ b ∈ bs, Gl b
  fl1 : fl y live = (journalw gen first base bs, (journalw gen first base bs).length)
  fl2 : fl y (1 - live) = ([], 0)
section
variable {live gen first N : Nat} {base : List (List Nat)} {bs : List (List (List Nat))} {y : Sp}
theorem gl_nil : Gl [] := ⟨by simp, fun _ h => by cases h⟩
theorem Lv.whole (hlv : live ≤ 1) (g1 : 1 ≤ gen) (g2 : gen ≤ 1000000) (f1 : 1 ≤ first) (f2 : first + bs.length ≤ 1000000) (gb : Gl base) (gs : ∀ b ∈ bs, Gl b) (e : (fl y live).1 = journalw gen first base bs) (ho : Oth gen (fl y (1 - live)).1) : Lv live gen first base bs y :=
  ⟨hlv, g1, g2, f1, f2, gb, gs, ⟨[], 0, gl_nil, by omega, by simpa using e⟩, ho⟩
theorem Cln.dsk (h : Cln live gen first base bs y) (hN1 : gen ≤ N) (hN2 : first + bs.length ≤ N) (k0 k1 : Nat) : Dsk N ⟨base, bs, first - 1 + bs.length⟩ (crash y k0 k1) := by
  refine .inr ⟨live, gen, first, base, bs, Lv.whole h.lv h.g1 (by have := h.g2; omega) h.f1 (by have := h.f2; omega) h.gb h.gs ?_ ?_, rfl, hN1, hN2⟩
  · rw [fl_crash, h.fl1, cut_full]
  · rw [fl_crash, h.fl2, show (([] : List Nat), 0) = (([] : List Nat), ([] : List Nat).length) from rfl, cut_full]
    exact .nil
/-- A commit's first moment: the batch is there, and loose. -/
theorem Cln.commit1 (h : Cln live gen first base bs y) {b : List (List Nat)} (hb : Gl b) (hN1 : gen ≤ N) (hN2 : first + bs.length + 1 ≤ N) (k0 k1 : Nat) :
    Dsk N ⟨base, bs, first - 1 + bs.length⟩ (crash (up y live (journalw gen first base (bs ++ [b]), (journalw gen first base bs).length)) k0 k1) ∨ Dsk N ⟨base, bs ++ [b], first - 1 + (bs ++ [b]).length⟩ (crash (up y live (journalw gen first base (bs ++ [b]), (journalw gen first base bs).length)) k0 k1) := by
  have hlv := h.lv
  have e2 : (fl (crash (up y live (journalw gen first base (bs ++ [b]), (journalw gen first base bs).length)) k0 k1) (1 - live)).1 = [] := by
    rw [fl_crash, fl_other hlv (by omega) (by omega), h.fl2, show (([] : List Nat), 0) = (([] : List Nat), ([] : List Nat).length) from rfl, cut_full]
  have e1 : (fl (crash (up y live (journalw gen first base (bs ++ [b]), (journalw gen first base bs).length)) k0 k1) live) = cutP (journalw gen first base bs ++ batchw (first + bs.length) b, (journalw gen first base bs).length) (if live = 0 then k0 else k1) := by
    rw [fl_crash, fl_same, journalw_snoc]
  obtain ⟨m, hm, e⟩ := cut_app (journalw gen first base bs) (batchw (first + bs.length) b) (if live = 0 then k0 else k1)
  rw [batchw_len] at hm
  by_cases c : m = 26 + sizes b
  · right
    refine .inr ⟨live, gen, first, base, bs ++ [b], Lv.whole h.lv h.g1 (by have := h.g2; omega) h.f1 (by have := h.f2; simp; omega) h.gb (fun x hx => ?_) ?_ ?_, rfl, hN1, by simp; omega⟩
    · rcases List.mem_append.1 hx with q | q
      · exact h.gs x q
      · obtain rfl : x = b := by simpa using q
        exact hb
    · rw [e1, e, c, ← batchw_len (first + bs.length) b, List.take_length, journalw_snoc]
    · rw [e2]
      exact .nil
  · left
    refine .inr ⟨live, gen, first, base, bs, ⟨h.lv, h.g1, by have := h.g2; omega, h.f1, by have := h.f2; omega, h.gb, h.gs, ⟨b, m, hb, by omega, by rw [e1, e]⟩, by rw [e2]; exact .nil⟩, rfl, hN1, by omega⟩
/-- Its second: the batch is safe. -/
theorem Cln.commit2 (h : Cln live gen first base bs y) {b : List (List Nat)} (hb : Gl b) (hf : first + bs.length + 1 ≤ 999000) {s : Nat} : Cln live gen first base (bs ++ [b]) (up (up y live (journalw gen first base (bs ++ [b]), s)) live (journalw gen first base (bs ++ [b]), (journalw gen first base (bs ++ [b])).length)) := by
  have hlv := h.lv
  refine ⟨h.lv, h.g1, h.g2, h.f1, by simp; omega, h.gb, fun x hx => ?_, fl_same _ _ _, ?_⟩
  · rcases List.mem_append.1 hx with q | q
    · exact h.gs x q
    · obtain rfl : x = b := by simpa using q
      exact hb
  · rw [fl_other hlv (by omega) (by omega), fl_other hlv (by omega) (by omega)]
    exact h.fl2
theorem journalw_nil (gen first : Nat) (ls : List (List Nat)) : journalw gen first ls [] = basew gen first ls := by
  unfold journalw
  simp [batchesw]
/-- A compaction's first moment: the new base is there, and loose. -/
theorem Cln.compact1 (h : Cln live gen first base bs y) {ls : List (List Nat)} (hl : Gl ls) (hN1 : gen + 1 ≤ N) (hN2 : first + bs.length ≤ N) (k0 k1 : Nat) :
    Dsk N ⟨base, bs, first - 1 + bs.length⟩ (crash (up y (1 - live) (basew (gen + 1) (first + bs.length) ls, 0)) k0 k1) ∨ Dsk N ⟨ls, [], first - 1 + bs.length⟩ (crash (up y (1 - live) (basew (gen + 1) (first + bs.length) ls, 0)) k0 k1) := by
  have hlv := h.lv
  have hg2 := h.g2
  have hf1 := h.f1
  have hf2 := h.f2
  have hoo : 1 - (1 - live) = live := by omega
  have e1 : (fl (crash (up y (1 - live) (basew (gen + 1) (first + bs.length) ls, 0)) k0 k1) live).1 = journalw gen first base bs := by
    rw [fl_crash, fl_other (by omega) hlv (by omega), h.fl1, cut_full]
  have e2 : (fl (crash (up y (1 - live) (basew (gen + 1) (first + bs.length) ls, 0)) k0 k1) (1 - live)) = cutP (basew (gen + 1) (first + bs.length) ls, 0) (if 1 - live = 0 then k0 else k1) := by
    rw [fl_crash, fl_same]
  obtain ⟨m, hm, e⟩ := cut_loose (basew (gen + 1) (first + bs.length) ls) (if 1 - live = 0 then k0 else k1)
  rw [basew_len] at hm
  by_cases c : m = 52 + sizes ls
  · right
    refine .inr ⟨1 - live, gen + 1, first + bs.length, ls, [], Lv.whole (by omega) (by omega) (by omega) (by omega) (by simp; omega) hl (fun x hx => by cases hx) ?_ ?_, ?_, hN1, by simpa using hN2⟩
    · rw [e2, e, c, ← basew_len (gen + 1) (first + bs.length) ls, List.take_length, journalw_nil]
    · rw [hoo, e1]
      exact .old gen first base bs h.g1 (by omega) hf1 (by omega) h.gb h.gs
    · have : first - 1 + bs.length = first + bs.length - 1 + 0 := by omega
      rw [this]
      rfl
  · left
    refine .inr ⟨live, gen, first, base, bs, Lv.whole hlv h.g1 (by omega) hf1 (by omega) h.gb h.gs e1 ?_, rfl, by omega, hN2⟩
    rw [e2, e]
    exact .torn _ _ _ (by omega) (by omega) hl (by omega)
/-- Its second: the new base is safe, the elder journal lies there yet. -/
theorem Cln.compact2 (h : Cln live gen first base bs y) {ls : List (List Nat)} (hl : Gl ls) (hN1 : gen + 1 ≤ N) (hN2 : first + bs.length ≤ N) (k0 k1 : Nat) :
    Dsk N ⟨ls, [], first - 1 + bs.length⟩ (crash (up y (1 - live) (basew (gen + 1) (first + bs.length) ls, (basew (gen + 1) (first + bs.length) ls).length)) k0 k1) := by
  have hlv := h.lv
  have hg2 := h.g2
  have hf1 := h.f1
  have hf2 := h.f2
  have hoo : 1 - (1 - live) = live := by omega
  refine .inr ⟨1 - live, gen + 1, first + bs.length, ls, [], Lv.whole (by omega) (by omega) (by omega) (by omega) (by simp; omega) hl (fun x hx => by cases hx) ?_ ?_, ?_, hN1, by simpa using hN2⟩
  · rw [fl_crash, fl_same, cut_full, journalw_nil]
  · rw [hoo, fl_crash, fl_other (by omega) hlv (by omega), h.fl1, cut_full]
    exact .old gen first base bs h.g1 (by omega) hf1 (by omega) h.gb h.gs
  · have : first - 1 + bs.length = first + bs.length - 1 + 0 := by omega
    rw [this]
    rfl
/-- Its third: the elder journal is gone. -/
theorem Cln.compact3 (h : Cln live gen first base bs y) {ls : List (List Nat)} (hl : Gl ls) (hg : gen + 1 ≤ 999000) :
    Cln (1 - live) (gen + 1) (first + bs.length) ls [] (up (up y (1 - live) (basew (gen + 1) (first + bs.length) ls, (basew (gen + 1) (first + bs.length) ls).length)) live ([], 0)) := by
  have hlv := h.lv
  have hf1 := h.f1
  have hf2 := h.f2
  have hoo : 1 - (1 - live) = live := by omega
  refine ⟨by omega, by omega, hg, by omega, by simp; omega, hl, fun x hx => (by cases hx), ?_, ?_⟩
  · rw [fl_other hlv (by omega) (by omega), fl_same, journalw_nil]
  · rw [hoo, fl_same]
/-- Only the bytes count. -/
theorem Dsk.congr {b : Bk} {y z : Sp} (h : Dsk N b y) (h0 : z.1.1 = y.1.1) (h1 : z.2.1 = y.2.1) : Dsk N b z := by
  have hf : ∀ i, (fl z i).1 = (fl y i).1 := fun i => by
    unfold fl
    split
    · exact h0
    · exact h1
  rcases h with ⟨⟨e1, m, hm, e0⟩, hb⟩ | ⟨live, gen, first, base, bs, h, hb, hn1, hn2⟩
  · exact .inl ⟨⟨h1.trans e1, m, hm, h0.trans e0⟩, hb⟩
  · obtain ⟨b', m, q1, q2, q3⟩ := h.tail
    exact .inr ⟨live, gen, first, base, bs, ⟨h.lv, h.g1, h.g2, h.f1, h.f2, h.gb, h.gs, ⟨b', m, q1, q2, (hf live).trans q3⟩, by rw [hf]; exact h.oth⟩, hb, hn1, hn2⟩
theorem fl_mo (x : Sp) (i : Nat) : fl ((x.1.1, x.1.1.length), (x.2.1, x.2.1.length)) i = ((fl x i).1, (fl x i).1.length) := by
  unfold fl
  split <;> rfl
/-- A file that is cut to a length. -/
theorem fl_trx {x : Sp} {i n : Nat} : fl (trx x i n) i = if n < (fl x i).1.length then ((fl x i).1.take n, min (fl x i).2 n) else fl x i := by
  unfold trx
  split
  · rw [fl_same]
  · rfl
theorem fl_trx_other {x : Sp} {i k n : Nat} (hi : i ≤ 1) (hk : k ≤ 1) (h : k ≠ i) : fl (trx x i n) k = fl x k := by
  unfold trx
  split
  · exact fl_other hi hk h
  · rfl
/-- What Open leaves of a disk with a journal, and its moments. -/
theorem Lv.opened (h : Lv live gen first base bs y) (hg : gen ≤ 999000) (hf : first + bs.length ≤ 999000) (hN1 : gen ≤ N) (hN2 : first + bs.length ≤ N) {x : Sp} (hx : x = ((y.1.1, y.1.1.length), (y.2.1, y.2.1.length))) {n : Nat} (hn : n = (journalw gen first base bs).length) :
    (∀ k0 k1, Dsk N ⟨base, bs, first - 1 + bs.length⟩ (crash x k0 k1)) ∧ (∀ k0 k1, Dsk N ⟨base, bs, first - 1 + bs.length⟩ (crash (trx x live n) k0 k1)) ∧ Cln live gen first base bs (trx (trx x live n) (1 - live) 0) := by
  have hlv := h.lv
  have f1 := h.f1
  have fx : ∀ i, fl x i = ((fl y i).1, (fl y i).1.length) := fun i => by rw [hx]; exact fl_mo y i
  obtain ⟨b', m, q1, q2, q3⟩ := h.tail
  have hL : fl (trx x live n) live = (journalw gen first base bs, (journalw gen first base bs).length) := by
    rw [fl_trx, fx]
    split
    · rename_i c
      have c : n < (fl y live).1.length := c
      show ((fl y live).1.take n, min (fl y live).1.length n) = _
      rw [q3, hn, List.take_left, List.length_append]
      congr 1
      omega
    · rename_i c
      have c : ¬ n < (fl y live).1.length := c
      rw [q3, List.length_append] at c
      have c2 : ((batchw (first + bs.length) b').take m).length = 0 := by omega
      have c3 := List.length_eq_zero_iff.1 c2
      rw [q3, c3, List.append_nil]
  have hO : fl (trx x live n) (1 - live) = ((fl y (1 - live)).1, (fl y (1 - live)).1.length) := by
    rw [fl_trx_other hlv (by omega) (by omega), fx]
  refine ⟨fun k0 k1 => ?_, fun k0 k1 => .inr ⟨live, gen, first, base, bs, Lv.whole hlv h.g1 h.g2 f1 h.f2 h.gb h.gs ?_ ?_, rfl, hN1, hN2⟩, hlv, h.g1, hg, f1, hf, h.gb, h.gs, ?_, ?_⟩
  · refine Dsk.congr (y := y) (.inr ⟨live, gen, first, base, bs, h, rfl, hN1, hN2⟩) ?_ ?_
    · rw [hx]
      exact cut_full _ _
    · rw [hx]
      exact cut_full _ _
  · rw [fl_crash, hL, cut_full]
  · rw [fl_crash, hO, cut_full]
    exact h.oth
  · rw [fl_trx_other (by omega) hlv (by omega), hL]
  · rw [fl_trx, hO]
    split
    · show ((fl y (1 - live)).1.take 0, min (fl y (1 - live)).1.length 0) = _
      rw [List.take_zero, Nat.min_zero]
    · rename_i c
      have c : ¬ 0 < (fl y (1 - live)).1.length := c
      have c3 := List.length_eq_zero_iff.1 (show (fl y (1 - live)).1.length = 0 by omega)
      rw [c3]
      rfl
/-- What begin leaves of a disk with none, and its moments. -/
theorem Em.begun (h : Em y) (hN : 1 ≤ N) {x : Sp} (hx : x = ((y.1.1, y.1.1.length), (y.2.1, y.2.1.length))) :
    (∀ k0 k1, Dsk N ⟨[], [], 0⟩ (crash x k0 k1)) ∧ (∀ k0 k1, Dsk N ⟨[], [], 0⟩ (crash (trx x 0 0) k0 k1)) ∧ trx (trx x 0 0) 1 0 = trx x 0 0 ∧ (∀ k0 k1, Dsk N ⟨[], [], 0⟩ (crash (up (trx x 0 0) 0 (basew 1 1 [], 0)) k0 k1)) ∧ ∀ s, Cln 0 1 1 [] [] (up (up (trx x 0 0) 0 (basew 1 1 [], s)) 0 (basew 1 1 [], (basew 1 1 []).length)) := by
  obtain ⟨e1, m, hm, e0⟩ := id h
  have fx : ∀ i, fl x i = ((fl y i).1, (fl y i).1.length) := fun i => by rw [hx]; exact fl_mo y i
  have h1 : fl (trx x 0 0) 1 = ([], 0) := by
    rw [fl_trx_other (by omega) (by omega) (by omega), fx, show (fl y 1).1 = [] from e1]
    rfl
  have h0 : fl (trx x 0 0) 0 = ([], 0) := by
    rw [fl_trx, fx]
    split
    · show ((fl y 0).1.take 0, min (fl y 0).1.length 0) = _
      rw [List.take_zero, Nat.min_zero]
    · rename_i c
      have c : ¬ 0 < (fl y 0).1.length := c
      have c3 := List.length_eq_zero_iff.1 (show (fl y 0).1.length = 0 by omega)
      rw [c3]
      rfl
  have n2 : ∀ k, (cutP (([] : List Nat), 0) k).1 = [] := fun k => cut_full [] k
  refine ⟨fun k0 k1 => ?_, fun k0 k1 => .inl ⟨⟨?_, 0, by omega, ?_⟩, rfl⟩, ?_, fun k0 k1 => ?_, fun s => ⟨by omega, by omega, by omega, by omega, by simp, gl_nil, fun x hx => (by cases hx), ?_, ?_⟩⟩
  · refine Dsk.congr (y := y) (.inl ⟨h, rfl⟩) ?_ ?_
    · rw [hx]
      exact cut_full _ _
    · rw [hx]
      exact cut_full _ _
  · show (fl (crash (trx x 0 0) k0 k1) 1).1 = []
    rw [fl_crash, h1, n2]
  · show (fl (crash (trx x 0 0) k0 k1) 0).1 = _
    rw [fl_crash, h0, n2]
    rfl
  · show (if 0 < (fl (trx x 0 0) 1).1.length then _ else _) = _
    rw [h1]
    rfl
  · have c1 : (fl (crash (up (trx x 0 0) 0 (basew 1 1 [], 0)) k0 k1) 1).1 = [] := by
      rw [fl_crash, fl_other (by omega) (by omega) (by omega), h1, n2]
    have c0 : (fl (crash (up (trx x 0 0) 0 (basew 1 1 [], 0)) k0 k1) 0) = cutP (basew 1 1 [], 0) (if 0 = 0 then k0 else k1) := by
      rw [fl_crash, fl_same]
    obtain ⟨m, hm, e⟩ := cut_loose (basew 1 1 []) (if 0 = 0 then k0 else k1)
    rw [basew_len] at hm
    have hs : sizes ([] : List (List Nat)) = 0 := rfl
    by_cases c : m = 52
    · refine .inr ⟨0, 1, 1, [], [], Lv.whole (by omega) (by omega) (by omega) (by omega) (by simp) gl_nil (fun x hx => by cases hx) ?_ ?_, rfl, hN, by simpa using hN⟩
      · rw [c0, e, c, show (52 : Nat) = (basew 1 1 []).length by rw [basew_len, hs], List.take_length, journalw_nil]
      · rw [show 1 - 0 = 1 from rfl, c1]
        exact .nil
    · refine .inl ⟨⟨c1, m, by omega, ?_⟩, rfl⟩
      show (fl (crash (up (trx x 0 0) 0 (basew 1 1 [], 0)) k0 k1) 0).1 = _
      rw [c0, e]
  · rw [fl_same, journalw_nil]
  · rw [show 1 - 0 = 1 from rfl, fl_other (by omega) (by omega) (by omega), fl_other (by omega) (by omega) (by omega), h1]
end
end Dev.Cr
end Go.Proofs.YtfimaflglnemdaaDoor

/- JournalCrash: Commit with the device's whole history. -/
namespace Go.Proofs.YtfimaflglnemdaaDoor
open Go.RowKit
open JM
set_option maxRecDepth 20000
namespace Dev
section
variable [Inhabited HoleT] {lo j v lim live gen last n : Nat} {W : World} {x : Sp} {pre : List Sp}
set_option maxRecDepth 100000 in
set_option maxHeartbeats 1600000 in
theorem Commit_hist {B : Nat} {u : Value} {ls : List (List Nat)} (h : Jh lo W j v lim live gen last (pre ++ [x])) (hu : Ll B W u ls) (hg : Gl ls) (hT : Tc W) (h0 : 0 < lo) (hlast : last < 4611686018427387904) (hs : sizes ls < 70000000) (hL : (fl x live).1.length ≤ 67108864) (hlim : lim ≤ 67108864) (hfit : (fl x live).1.length + (26 + sizes ls) ≤ lim) (hn : pre.length + 3 < 1000000) :
    Calls Tryd.prog 16 #[.pointer (some ⟨j, 0, none⟩), u] W fun e w' => e = .returned (.tuple #[.int .i64 ((last + 1 : Nat) : Int), .int .i64 0]) ∧ Jh lo w' j v lim live gen (last + 1) (pre ++ [x] ++ [up x live ((fl x live).1 ++ batchw (last + 1) ls, (fl x live).2)] ++ [up (up x live ((fl x live).1 ++ batchw (last + 1) ls, (fl x live).2)) live ((fl x live).1 ++ batchw (last + 1) ls, ((fl x live).1 ++ batchw (last + 1) ls).length)]) ∧ Fo lo W w' := by
  have C1 := tooLong_no W hu.lr hg
  obtain ⟨CA, CB⟩ := askB h.jn hu hs hL
  rw [decide_eq_true hfit] at CB
  have c2 := h.jn.c2
  have c4 := h.jn.c4
  have hl4 : Hid (decide ((4611686018427387904 : Int) ≤ (last : Int)) = false) := by show decide _ = false; rw [decide_eq_false]; omega
  have hl5 : last < 9000000000000000000 := by omega
  obtain ⟨z, hz⟩ : ∃ z, 26 + sizes ls = z := ⟨_, rfl⟩
  rw [hz] at CA CB
  replace CA := mkHid CA
  replace CB := mkHid CB
  replace hz := mkHid hz
  obtain ⟨ou, cu, rfl⟩ := hu.sl
  have HH := mkHid (And.intro h (And.intro hu hT))
  have HS := mkHid (And.intro hs (And.intro hL (And.intro hlim hfit)))
  clear h hu hg hlast hs hL hfit hT hlim
  go_enter Tryd.func16, Tryd.ntmps16
  go_wp2_with fail
  refine C1.mono ?_
  rintro e w ⟨rfl, rfl⟩
  clear C1
  go_upto_region 5 with fail
  have hq := hl4.out
  clear hl4
  go_upto_region 7 with fail
  clear hq
  go_region_held3 (fun w' => w'.cell? ⟨j, 2, none⟩ = some (.int .i64 (live : Int))) (first | assumption | exact c2)
    (first
      | (go_at_call 46; with_reducible refine Calls.mono CA.out ?_; rintro e w1 ⟨rfl, rfl⟩)
      | (go_at_call 45; with_reducible refine Calls.mono CB.out ?_; rintro e w2 ⟨rfl, hb2, hc2⟩))
  have h2 := HH.out.1.below hb2
  have e4 := h2.jn.c4
  have f4 := h2.fz 4
  obtain ⟨h3, fo3⟩ := h2.setN (last + 1)
  rw [Int.natCast_succ] at h3 fo3
  obtain ⟨Z, hZ⟩ : ∃ Z, w2.setCell ⟨j, 4, none⟩ (.int .i64 ((last : Int) + 1)) = Z := ⟨_, rfl⟩
  rw [hZ] at h3 fo3
  have fo : Fo lo w Z := (Fo.of_below hb2).trans fo3
  have hu3 := HH.out.2.1.keep (fo.stay ll_ty)
  have hT3 := HH.out.2.2.below (fo.below HH.out.1.hlo) h0
  have h3d := h3.below (below_drew Z)
  have CC : Hid (Calls Tryd.prog 47 #[.int .i64 ((last : Int) + 1), .slice ou ls.length cu] Z.drew fun e w1 => ∃ v', e = .returned v' ∧ Hid (Bl w1 v' (batchw (last + 1) ls) ∧ Below Z.heap.size Z w1) ∧ (w1.cell? ⟨j, 0, none⟩ = some (.pointer (some ⟨v, 0, none⟩)) ∧ w1.cell? ⟨j, 2, none⟩ = some (.int .i64 (live : Int)) ∧ w1.cell? ⟨j, 4, none⟩ = some (.int .i64 ((last : Int) + 1)))) := by
    refine (batch_lay (last + 1) Z.drew (hu3.lr.below (below_drew Z)) (hT3.below (below_drew Z) hT3.sz) HS.out.1).mono ?_
    rintro e w1 ⟨v', e1, e2, e3⟩
    exact ⟨v', e1, ⟨e2.bl, (below_drew Z).trans e3⟩, (h3d.below e3).jn.c0, (h3d.below e3).jn.c2, (h3d.below e3).jn.c4⟩
  have CD : Hid (∀ w1 v', Hid (Bl w1 v' (batchw (last + 1) ls) ∧ Below Z.heap.size Z w1) → Calls Tryd.prog 29 #[.pointer (some ⟨v, 0, none⟩), .int .i64 (live : Int), v'] w1 fun e w' => e = .returned (.int .i64 0) ∧ Hid (Jh lo w' j v lim live gen (last + 1) (pre ++ [x] ++ [up x live ((fl x live).1 ++ batchw (last + 1) ls, (fl x live).2)]) ∧ Fo lo w w') ∧ (w'.cell? ⟨j, 0, none⟩ = some (.pointer (some ⟨v, 0, none⟩)) ∧ w'.cell? ⟨j, 2, none⟩ = some (.int .i64 (live : Int)) ∧ w'.cell? ⟨j, 4, none⟩ = some (.int .i64 ((last : Int) + 1)))) := by
    rintro w1 v' ⟨k1, k2⟩
    refine ((h3.below k2).append (by omega) live h3.live1 v' _ k1 (by rw [batchw_len]; have := HS.out; omega)).mono ?_
    rintro e w' ⟨e1, e2, e3⟩
    exact ⟨e1, ⟨e2, fo.trans ((Fo.of_below k2).trans e3)⟩, e2.jn.c0, e2.jn.c2, e2.jn.c4⟩
  have d0 := h3d.jn.c0
  have d2 := h3d.jn.c2
  have d4 := h3d.jn.c4
  rw [Int.natCast_succ] at d4
  clear h2 h3 fo3 fo hu3 hT3 h3d HH c2 c4 hb2 hc2 CA CB
  go_upto_region 10 with fail
  go_region_held3 (fun w' => w'.cell? ⟨j, 0, none⟩ = some (.pointer (some ⟨v, 0, none⟩)) ∧ w'.cell? ⟨j, 2, none⟩ = some (.int .i64 (live : Int)) ∧ w'.cell? ⟨j, 4, none⟩ = some (.int .i64 ((last : Int) + 1))) (first | assumption | exact ⟨d0, d2, d4⟩)
    (first
      | (go_at_call 47; with_reducible refine Calls.mono CC.out ?_; rintro e w3 ⟨v3, rfl, k3, s3⟩)
      | (go_at_call 29; with_reducible refine Calls.mono (CD.out _ _ k3) ?_; rintro e w4 ⟨rfl, k4, s4⟩))
  have h4d := k4.out.1.below (below_drew w4)
  have CE : Hid (Calls Tryd.prog 30 #[.pointer (some ⟨v, 0, none⟩), .int .i64 (live : Int)] w4.drew fun e w' => e = .returned (.int .i64 0) ∧ Hid (Jh lo w' j v lim live gen (last + 1) (pre ++ [x] ++ [up x live ((fl x live).1 ++ batchw (last + 1) ls, (fl x live).2)] ++ [up (up x live ((fl x live).1 ++ batchw (last + 1) ls, (fl x live).2)) live ((fl x live).1 ++ batchw (last + 1) ls, ((fl x live).1 ++ batchw (last + 1) ls).length)]) ∧ Fo lo w w') ∧ (w'.cell? ⟨j, 0, none⟩ = some (.pointer (some ⟨v, 0, none⟩)) ∧ w'.cell? ⟨j, 2, none⟩ = some (.int .i64 (live : Int)) ∧ w'.cell? ⟨j, 4, none⟩ = some (.int .i64 ((last : Int) + 1)))) := by
    refine (h4d.sync (by simp; omega) live h4d.live1).mono ?_
    rintro e w' ⟨e1, e2, e3⟩
    rw [fl_same] at e2
    exact ⟨e1, ⟨e2, k4.out.2.trans ((Fo.of_below (below_drew w4)).trans e3)⟩, e2.jn.c0, e2.jn.c2, e2.jn.c4⟩
  have d5 : w4.drew.cell? ⟨j, 0, none⟩ = some (.pointer (some ⟨v, 0, none⟩)) ∧ w4.drew.cell? ⟨j, 2, none⟩ = some (.int .i64 (live : Int)) ∧ w4.drew.cell? ⟨j, 4, none⟩ = some (.int .i64 ((last : Int) + 1)) := s4
  clear h4d CC CD k3 s3 d0 d2 d4
  go_upto_region 11 with fail
  go_region_held3 (fun w' => w'.cell? ⟨j, 0, none⟩ = some (.pointer (some ⟨v, 0, none⟩)) ∧ w'.cell? ⟨j, 2, none⟩ = some (.int .i64 (live : Int)) ∧ w'.cell? ⟨j, 4, none⟩ = some (.int .i64 ((last : Int) + 1))) (first | assumption | exact d5)
    (first
      | (go_at_call 30; with_reducible refine Calls.mono CE.out ?_; rintro e w6 ⟨rfl, k6, s6⟩))
  obtain ⟨-, -, s64⟩ := s6
  go_wp2_with fail
  go_ret2
  refine ⟨?_, k6.out⟩
  rw [Int.natCast_succ]
  rfl
end
end Dev
end Go.Proofs.YtfimaflglnemdaaDoor

/- JournalCrash: begin and Open on a disk with no journal, dirty ones too, with the device's whole history. -/
namespace Go.Proofs.YtfimaflglnemdaaDoor
open Go.RowKit
open JM
set_option maxRecDepth 20000
namespace Dev
theorem rsx_zero (x : Sp) : (fl (rsx x 0 0) 0).1 = [] := by
  unfold rsx
  rw [Cr.fl_trx_other (by decide) (by decide) (by decide), Cr.fl_trx]
  split
  · show (fl x 0).1.take 0 = []
    exact List.take_zero
  · rename_i c
    exact List.length_eq_zero_iff.1 (by omega)
/-- The moments behind begin. -/
def bgs (x : Sp) : List Sp := rss x 0 0 ++ [up (rsx x 0 0) 0 (basew 1 1 [], (fl (rsx x 0 0) 0).2)] ++ [up (up (rsx x 0 0) 0 (basew 1 1 [], (fl (rsx x 0 0) 0).2)) 0 (basew 1 1 [], (basew 1 1 []).length)]
set_option maxRecDepth 100000 in
set_option maxHeartbeats 1600000 in
theorem begin_hist {i0 : Inhabited HoleT} {lo v lim : Nat} {W : World} {lv : Value} {f : Array Value} {ms : List (Array Value)} {pre : List Sp} {x : Sp} (h : @Dv i0 lo W v lv f ms (pre ++ [x])) (hlo : lo ≤ W.heap.size) (hn : pre.length + 6 < 1000000) (hT : Tc W) (hc0 : 0 < lo) :
    Calls Tryd.prog 41 #[.pointer (some ⟨v, 0, none⟩), .int .i64 (lim : Int)] W fun e w' => ∃ j, e = .returned (.pointer (some ⟨j, 0, none⟩)) ∧ @Jh (hJ j) lo w' j v lim 0 1 0 (pre ++ [x] ++ bgs x) ∧ Fo lo W w' := by
  have C1 := trim_any h hlo (by omega) 0 (by decide) 0
  obtain ⟨pre', hp, hpl⟩ := trs_pre pre x 0 0
  rw [hp, show ((0 : Nat) : Int) = 0 from rfl] at C1
  have HH := mkHid (And.intro hp (And.intro hpl (And.intro hlo (And.intro hn (And.intro hT hc0)))))
  clear h hlo hn hT hc0 hp hpl
  go_enter Tryd.func41, Tryd.ntmps41
  go_wp2_with fail
  refine C1.mono ?_
  rintro e w1 ⟨rfl, ⟨lv1, ms1, d1⟩, fo1⟩
  clear C1
  have C2 := trim_any d1 (Nat.le_trans HH.out.2.2.1 fo1.size) (by have := HH.out; omega) 1 (by decide) 0
  obtain ⟨pre2, hp2, hpl2⟩ := trs_pre pre' (trx x 0 0) 1 0
  rw [hp2, show ((0 : Nat) : Int) = 0 from rfl, show ((1 : Nat) : Int) = 1 from rfl] at C2
  have H1 := mkHid (And.intro hp2 (And.intro hpl2 fo1))
  clear d1 hp2 hpl2 fo1
  go_wp2_with fail
  refine C2.mono ?_
  rintro e w2 ⟨rfl, ⟨lv2, ms2, d2⟩, fo2⟩
  clear C2
  obtain ⟨Z, hZ⟩ : ∃ Z, w2.alloc (.cells #[.pointer (some ⟨v, 0, none⟩), .int .i64 (lim : Int), .int .i64 0, .int .i64 1, .int .i64 0] 101) = Z := ⟨_, rfl⟩
  have bZ : Below w2.heap.size w2 Z := by rw [← hZ]; exact (Below.refl _ w2).alloc (Nat.le_refl _) _
  have rZ : Z.heap[w2.heap.size]? = some (.cells (jrow v lim 0 1 0) 101 (0, 0)) := by rw [← hZ]; exact heap_alloc_new _ _
  obtain ⟨j, hj⟩ : ∃ j, w2.heap.size = j := ⟨_, rfl⟩
  have fo02 : Fo lo W w2 := H1.out.2.2.trans fo2
  have foZ : Fo lo W Z := fo02.trans (Fo.of_below bZ)
  have dZ : @Dv (hJ j) lo Z v lv2 f ms2 (pre2 ++ [rsx x 0 0]) := Dv.toJ d2 bZ (Nat.le_of_eq hj) (by rw [← hj]; exact (Array.getElem?_eq_some_iff.1 rZ).1)
  letI := hJ j
  have hll : pre2.length + 3 < 1000000 := by have := HH.out.2.1; have := H1.out.2.1; have := HH.out.2.2.2.1; omega
  have h3 : Jh lo Z j v lim 0 1 0 (pre2 ++ [rsx x 0 0]) := ⟨⟨lv2, f, ms2, dZ⟩, by rw [← hj]; exact rZ, (rfl : j = j), Nat.le_trans HH.out.2.2.1 foZ.size, by rw [← hj]; exact Nat.le_trans HH.out.2.2.1 fo02.size, by simp; omega, Nat.zero_le _⟩
  have hT3 : Tc Z := HH.out.2.2.2.2.1.below (foZ.below HH.out.2.2.1) HH.out.2.2.2.2.2
  have h3d := h3.below (below_drew Z)
  have CC : Hid (Calls Tryd.prog 52 #[.int .i64 1, .int .i64 (IntKind.i64.wrap 1), .slice none 0 0] Z.drew fun e w1 => ∃ v', e = .returned v' ∧ Hid (Bl w1 v' (basew 1 1 []) ∧ Below Z.heap.size Z w1) ∧ (w1.cell? ⟨j, 2, none⟩ = some (.int .i64 0) ∧ w1.cell? ⟨j, 3, none⟩ = some (.int .i64 1) ∧ w1.cell? ⟨j, 4, none⟩ = some (.int .i64 0))) := by
    rw [show IntKind.i64.wrap 1 = 1 by rw [IntKind.wrap_i64]; rfl]
    refine (base_lay 1 1 Z.drew (ls := []) (Ll.nil 0 _).lr (hT3.below (below_drew Z) hT3.sz) (by decide)).mono ?_
    rintro e w1 ⟨v', e1, e2, e3⟩
    exact ⟨v', e1, ⟨e2.bl, (below_drew Z).trans e3⟩, (h3d.below e3).jn.c2, (h3d.below e3).jn.c3, (h3d.below e3).jn.c4⟩
  have CD : Hid (∀ w1 v', Hid (Bl w1 v' (basew 1 1 []) ∧ Below Z.heap.size Z w1) → Calls Tryd.prog 29 #[.pointer (some ⟨v, 0, none⟩), .int .i64 0, v'] w1 fun e w' => e = .returned (.int .i64 0) ∧ Hid (Jh lo w' j v lim 0 1 0 (pre2 ++ [rsx x 0 0] ++ [up (rsx x 0 0) 0 (basew 1 1 [], (fl (rsx x 0 0) 0).2)]) ∧ Fo lo W w') ∧ (w'.cell? ⟨j, 2, none⟩ = some (.int .i64 0) ∧ w'.cell? ⟨j, 3, none⟩ = some (.int .i64 1) ∧ w'.cell? ⟨j, 4, none⟩ = some (.int .i64 0))) := by
    rintro w1 v' ⟨k1, k2⟩
    refine ((h3.below k2).append (by omega) 0 (by decide) v' _ k1 (by rw [basew_len, rsx_zero]; simp [sizes])).mono ?_
    rintro e w' ⟨e1, e2, e3⟩
    rw [rsx_zero, List.nil_append] at e2
    exact ⟨e1, ⟨e2, foZ.trans ((Fo.of_below k2).trans e3)⟩, e2.jn.c2, e2.jn.c3, e2.jn.c4⟩
  have d0 : Z.drew.cell? ⟨j, 2, none⟩ = some (.int .i64 0) ∧ Z.drew.cell? ⟨j, 3, none⟩ = some (.int .i64 1) ∧ Z.drew.cell? ⟨j, 4, none⟩ = some (.int .i64 0) := ⟨h3d.jn.c2, h3d.jn.c3, h3d.jn.c4⟩
  replace hj := mkHid hj
  replace hZ := mkHid hZ
  clear h3 h3d foZ fo02 fo2 hT3 dZ rZ bZ d2
  go_upto_region 4 with fail
  rw [hZ.out, hj.out]
  go_region_held3 (fun w' => w'.cell? ⟨j, 2, none⟩ = some (.int .i64 0) ∧ w'.cell? ⟨j, 3, none⟩ = some (.int .i64 1) ∧ w'.cell? ⟨j, 4, none⟩ = some (.int .i64 0)) (first | assumption | exact d0)
    (first
      | (go_at_call 52; with_reducible refine Calls.mono CC.out ?_; rintro e w3 ⟨v3, rfl, k3, s3⟩)
      | (go_at_call 29; with_reducible refine Calls.mono (CD.out _ _ k3) ?_; rintro e w4 ⟨rfl, k4, s4⟩))
  have CE := k4.out.1.sync (by simp; omega) 0 (by decide)
  rw [fl_same] at CE
  obtain ⟨s42, -, -⟩ := s4
  clear CC CD k3 s3 d0
  go_wp2_with fail
  refine CE.mono ?_
  rintro e w5 ⟨rfl, e2, e3⟩
  have HE := mkHid (And.intro e2 (k4.out.2.trans e3))
  clear CE e2 e3
  go_wp2_with fail
  go_ret
  refine ⟨j, rfl, ?_, HE.out.2⟩
  have he : pre ++ [x] ++ bgs x = pre2 ++ [rsx x 0 0] ++ [up (rsx x 0 0) 0 (basew 1 1 [], (fl (rsx x 0 0) 0).2)] ++ [up (up (rsx x 0 0) 0 (basew 1 1 [], (fl (rsx x 0 0) 0).2)) 0 (basew 1 1 [], (basew 1 1 []).length)] := by
    have e2 : pre ++ [x] ++ rss x 0 0 = pre2 ++ [rsx x 0 0] := by
      unfold rss
      rw [← List.append_assoc, HH.out.1, show (1 : Nat) - 0 = 1 from rfl, H1.out.1]
      rfl
    unfold bgs
    rw [← List.append_assoc, ← List.append_assoc, e2]
  rw [he]
  exact HE.out.1
end Dev
end Go.Proofs.YtfimaflglnemdaaDoor

/- JournalCrash: Open on any disk that holds a book. -/
namespace Go.Proofs.YtfimaflglnemdaaDoor
open Go.RowKit
open JM
set_option maxRecDepth 20000
namespace Dev
attribute [local go_sem ↓] toStSt toLdSt in
set_option maxRecDepth 100000 in
set_option maxHeartbeats 1600000 in
theorem Open_none {i0 : Inhabited HoleT} {lo v lim : Nat} {W : World} {lv : Value} {f : Array Value} {ms : List (Array Value)} {pre : List Sp} {x : Sp} (h : @Dv i0 lo W v lv f ms (pre ++ [x])) (hlo : lo ≤ W.heap.size) (hn : pre.length + 6 < 1000000) (hT : Tc W) (hc0 : 0 < lo) (hlim : lim ≤ 67108864) (hlim2 : 64 ≤ lim) (b0 : Byt x.1.1) (b1 : Byt x.2.1) (l0 : x.1.1.length ≤ 67108864) (l1 : x.2.1.length ≤ 67108864) (hr : rep x.1.1 x.2.1 = .none) :
    Calls Tryd.prog 13 #[.pointer (some ⟨v, 0, none⟩), .int .i64 (lim : Int)] W fun e w' => ∃ j, e = .returned (.tuple #[.pointer (some ⟨j, 0, none⟩), .int .i64 0, .int .i64 0, .int .i64 0]) ∧ @Jh (hJ j) lo w' j v lim 0 1 0 (pre ++ [x] ++ bgs x) ∧ Fo lo W w' := by
  have hm := @Dv.len i0 _ _ _ _ _ _ _ h
  rw [List.length_append, List.length_singleton] at hm
  have C1 := @Disk_any i0 _ _ _ _ _ _ _ h _ (@Jh.last_at i0 _ _ _ _ _ _ _ _ h) (by omega)
  have q1 : ¬ (lim : Int) < 64 := by omega
  have q2 : ¬ (67108864 : Int) < (lim : Int) := by omega
  have HH := mkHid (And.intro h (And.intro hlo (And.intro hn (And.intro hT (And.intro hc0 (And.intro b0 (And.intro b1 (And.intro l0 (And.intro l1 hr)))))))))
  replace C1 := mkHid C1
  clear h hlo hn hT hc0 b0 b1 l0 l1 hr hm
  go_enter Tryd.func13, Tryd.ntmps13
  go_wp2_with fail
  refine C1.out.mono ?_
  rintro e w1 ⟨c, rfl, g0, g1, rfl, r0, r1, p0, p1, p2, bD⟩
  clear C1
  have T1 := HH.out.2.2.2.1.below bD HH.out.2.2.2.1.sz
  have C2 := replay_none w1 (bl_row r0 HH.out.2.2.2.2.2.1 (by have := HH.out.2.2.2.2.2.2.2.1; unfold maxLen; omega)) (bl_row r1 HH.out.2.2.2.2.2.2.1 (by have := HH.out.2.2.2.2.2.2.2.2.1; unfold maxLen; omega)) T1 HH.out.2.2.2.2.2.2.2.2.2
  replace C2 := mkHid C2
  have HB := mkHid bD
  clear r0 r1 p0 p1 p2 bD T1
  unfold dkA
  go_wp2_with fail
  refine C2.out.mono ?_
  rintro e w2 ⟨rfl, b2⟩
  clear C2
  have s1 := st_Sn w2 #[.int .i64 (-1), .int .i64 0, .int .i64 0, .int .i64 0, .slice none 0 0, .slice none 0 0] rfl (by simp [Value.oneCell'])
  obtain ⟨E, hE⟩ : ∃ E, w2.alloc (.cells #[.int .i64 (-1), .int .i64 0, .int .i64 0, .int .i64 0, .slice none 0 0, .slice none 0 0] 47) = E := ⟨_, rfl⟩
  have bE : Below w2.heap.size w2 E := by rw [← hE]; exact (Below.refl _ w2).alloc (Nat.le_refl _) _
  have rE : E.heap[w2.heap.size]? = some (.cells #[.int .i64 (-1), .int .i64 0, .int .i64 0, .int .i64 0, .slice none 0 0, .slice none 0 0] 47 (0, 0)) := by rw [← hE]; exact heap_alloc_new _ _
  rw [hE] at s1
  have c0 : E.cell? ⟨w2.heap.size, 0, none⟩ = some (.int .i64 (-1)) := (cell_of_row _ _ _ _ _ _ rE).trans rfl
  have b0E : Below W.heap.size W E := HB.out.trans ((b2.trans (bE.mono b2.size)).mono HB.out.size)
  have C3 := begin_hist (lim := lim) (@Dv.below i0 _ _ _ _ _ _ _ _ HH.out.1 b0E) (Nat.le_trans HH.out.2.1 b0E.size) HH.out.2.2.1 (HH.out.2.2.2.1.below b0E HH.out.2.2.2.1.sz) HH.out.2.2.2.2.1
  replace hE := mkHid hE
  have HE := mkHid b0E
  clear b0E rE bE b2
  go_wp2_with fail
  refine C3.mono ?_
  rintro e w3 ⟨j, rfl, k1, k2⟩
  have HF := mkHid (And.intro k1 ((Fo.of_below HE.out).trans k2))
  clear C3 k1 k2
  go_wp2_with fail
  refine bodyPost_ret (results_tmp4 rfl _ _ _) rfl ?_
  exact ⟨j, rfl, HF.out⟩
namespace Cr
theorem trs_mem {x z : Sp} {i n : Nat} (h : z ∈ trs x i n) : z = trx x i n := by
  unfold trs at h
  unfold trx
  split at h
  · rename_i c
    rw [if_pos c]
    simpa using h
  · cases h
/-- A moment whose files are no longer than a life bears. -/
def Lim (z : Sp) : Prop := z.1.1.length ≤ 4194367 ∧ z.2.1.length ≤ 4194367
theorem Lim.fl {z : Sp} (h : Lim z) (i : Nat) : (Dev.fl z i).1.length ≤ 4194367 := by
  unfold Dev.fl
  split
  · exact h.1
  · exact h.2
theorem Lim.of {z : Sp} {live : Nat} (hl : live ≤ 1) (h0 : (Dev.fl z live).1.length ≤ 4194367) (h1 : (Dev.fl z (1 - live)).1.length ≤ 4194367) : Lim z := by
  obtain rfl | rfl : live = 0 ∨ live = 1 := by omega
  · exact ⟨h0, h1⟩
  · exact ⟨h1, h0⟩
theorem Lim.up {z : Sp} (h : Lim z) (i : Nat) {p : List Nat × Nat} (hp : p.1.length ≤ 4194367) : Lim (Dev.up z i p) := by
  unfold Dev.up
  split
  · exact ⟨hp, h.2⟩
  · exact ⟨h.1, hp⟩
theorem Lim.trx {z : Sp} (h : Lim z) (i n : Nat) : Lim (Dev.trx z i n) := by
  unfold Dev.trx
  split
  · exact h.up i (Nat.le_trans (List.length_take_le' _ _) (h.fl i))
  · exact h
theorem Lim.crash {z : Sp} (h : Lim z) (k0 k1 : Nat) : Lim (crash z k0 k1) := ⟨Nat.le_trans (List.length_take_le' _ _) h.1, Nat.le_trans (List.length_take_le' _ _) h.2⟩
/-- A few moments more. -/
def Few (L : List Sp) : Prop := L.length ≤ 3 ∧ ∀ z ∈ L, Lim z
theorem Few.nil : Few [] := ⟨Nat.zero_le _, fun _ h => by cases h⟩
theorem trs_len (x : Sp) (i n : Nat) : (trs x i n).length ≤ 1 := by
  unfold trs
  split <;> simp
/-- The moments of an Open, and what it leaves. -/
structure Opd (N : Nat) (b : Bk) (live gen first : Nat) (x : Sp) (L : List Sp) : Prop where
  all : ∀ z ∈ x :: L, ∀ k0 k1, Dsk N b (crash z k0 k1)
  last : ∃ z pre, x :: L = pre ++ [z] ∧ Cln live gen first b.base b.batches z
  book : b.last = first - 1 + b.batches.length
  gN : gen ≤ N
  fN : first + b.batches.length ≤ N
  lim : Lim x → ∀ z ∈ x :: L, Lim z
  few : L.length ≤ 4
theorem Opd.len {N live gen first : Nat} {b : Bk} {x : Sp} {L : List Sp} (o : Opd N b live gen first x L) (hx : Lim x) : (journalw gen first b.base b.batches).length ≤ 4194367 := by
  obtain ⟨z, pre, e, hz⟩ := o.last
  have := (o.lim hx z (by rw [e]; simp)).fl live
  rwa [hz.fl1] at this
theorem Lv.opd {live gen first N : Nat} {base : List (List Nat)} {bs : List (List (List Nat))} {y x : Sp} (h : Lv live gen first base bs y) (hg : gen ≤ 999000) (hf : first + bs.length ≤ 999000) (hN1 : gen ≤ N) (hN2 : first + bs.length ≤ N) (hx : x = ((y.1.1, y.1.1.length), (y.2.1, y.2.1.length))) : Opd N ⟨base, bs, first - 1 + bs.length⟩ live gen first x (rss x live (journalw gen first base bs).length) := by
  obtain ⟨h1, h2, h3⟩ := h.opened hg hf hN1 hN2 hx rfl
  refine ⟨fun z hz k0 k1 => ?_, ?_, rfl, hN1, hN2, fun hl z hz => ?_, ?_⟩
  · rcases List.mem_cons.1 hz with rfl | hz
    · exact h1 k0 k1
    · unfold rss at hz
      rcases List.mem_append.1 hz with hz | hz
      · rw [trs_mem hz]
        exact h2 k0 k1
      · rw [trs_mem hz]
        exact h3.dsk hN1 hN2 k0 k1
  · obtain ⟨p1, e1, -⟩ := trs_pre [] x live (journalw gen first base bs).length
    obtain ⟨p2, e2, -⟩ := trs_pre p1 (trx x live (journalw gen first base bs).length) (1 - live) 0
    refine ⟨_, p2, ?_, h3⟩
    rw [← e2, ← e1]
    simp [rss]
  · rcases List.mem_cons.1 hz with rfl | hz
    · exact hl
    · unfold rss at hz
      rcases List.mem_append.1 hz with hz | hz
      · rw [trs_mem hz]
        exact hl.trx _ _
      · rw [trs_mem hz]
        exact (hl.trx _ _).trx _ _
  · unfold rss
    rw [List.length_append]
    have := trs_len x live (journalw gen first base bs).length
    have := trs_len (trx x live (journalw gen first base bs).length) (1 - live) 0
    omega
theorem Em.opd {y x : Sp} {N : Nat} (h : Em y) (hN : 1 ≤ N) (hx : x = ((y.1.1, y.1.1.length), (y.2.1, y.2.1.length))) : Opd N ⟨[], [], 0⟩ 0 1 1 x (bgs x) := by
  obtain ⟨h1, h2, h3, h4, h5⟩ := h.begun hN hx
  have hz : rsx x 0 0 = trx x 0 0 := h3
  have hs : (fl (rsx x 0 0) 0).2 = 0 := by
    have e := rsx_zero x
    rw [hz, fl_trx] at e ⊢
    have fx : fl x 0 = ((fl y 0).1, (fl y 0).1.length) := by rw [hx]; exact fl_mo y 0
    rw [fx] at e ⊢
    split at e
    · rename_i c
      rw [if_pos c]
      exact Nat.min_zero _
    · rename_i c
      rw [if_neg c]
      show (fl y 0).1.length = 0
      have c : ¬ 0 < (fl y 0).1.length := c
      omega
  refine ⟨fun z hm k0 k1 => ?_, ⟨_, x :: (rss x 0 0 ++ [up (rsx x 0 0) 0 (basew 1 1 [], (fl (rsx x 0 0) 0).2)]), ?_, h5 0⟩, rfl, hN, by simpa using hN, fun hl z hm => ?_, ?_⟩
  · rcases List.mem_cons.1 hm with rfl | hm
    · exact h1 k0 k1
    · unfold bgs at hm
      rcases List.mem_append.1 hm with hm | hm
      · rcases List.mem_append.1 hm with hm | hm
        · unfold rss at hm
          rcases List.mem_append.1 hm with hm | hm
          · rw [trs_mem hm]
            exact h2 k0 k1
          · rw [trs_mem hm, h3]
            exact h2 k0 k1
        · obtain rfl : z = _ := List.mem_singleton.1 hm
          rw [hs, hz]
          exact h4 k0 k1
      · obtain rfl : z = _ := List.mem_singleton.1 hm
        rw [hs, hz]
        exact (h5 0).dsk hN (by simpa using hN) k0 k1
  · unfold bgs
    rw [hs, hz, List.cons_append]
  · have hbw : (basew 1 1 []).length ≤ 4194367 := by rw [basew_len]; simp [sizes]
    rcases List.mem_cons.1 hm with rfl | hm
    · exact hl
    · unfold bgs at hm
      rcases List.mem_append.1 hm with hm | hm
      · rcases List.mem_append.1 hm with hm | hm
        · unfold rss at hm
          rcases List.mem_append.1 hm with hm | hm
          · rw [trs_mem hm]
            exact hl.trx _ _
          · rw [trs_mem hm]
            exact (hl.trx _ _).trx _ _
        · obtain rfl : z = _ := List.mem_singleton.1 hm
          exact Lim.up (by rw [hz]; exact hl.trx _ _) 0 hbw
      · obtain rfl : z = _ := List.mem_singleton.1 hm
        exact Lim.up (Lim.up (by rw [hz]; exact hl.trx _ _) 0 hbw) 0 hbw
  · unfold bgs rss
    simp only [List.length_append, List.length_singleton]
    have := trs_len x 0 0
    have := trs_len (trx x 0 0) (1 - 0) 0
    omega
end Cr
/-- Open on a disk that holds a book. -/
theorem Open_dsk {i0 : Inhabited HoleT} {lo v lim N : Nat} {W : World} {lv : Value} {f : Array Value} {ms : List (Array Value)} {pre : List Sp} {x y : Sp} {b : Cr.Bk} (h : @Dv i0 lo W v lv f ms (pre ++ [x])) (hlo : lo ≤ W.heap.size) (hn : pre.length + 6 < 1000000) (hT : Tc W) (hc0 : 0 < lo) (hlim : lim ≤ 67108864) (hlim2 : 64 ≤ lim) (b0 : Byt y.1.1) (b1 : Byt y.2.1) (l0 : y.1.1.length ≤ 67108864) (l1 : y.2.1.length ≤ 67108864) (hN1 : 1 ≤ N) (hN : N ≤ 999000) (hx : x = ((y.1.1, y.1.1.length), (y.2.1, y.2.1.length))) (hd : Cr.Dsk N b y) :
    Calls Tryd.prog 13 #[.pointer (some ⟨v, 0, none⟩), .int .i64 (lim : Int)] W fun e w' => ∃ j live gen first L, e = .returned (.tuple #[.pointer (some ⟨j, 0, none⟩), .int .i64 0, .int .i64 0, .int .i64 0]) ∧ @Jh (hJ j) lo w' j v lim live gen b.last (pre ++ [x] ++ L) ∧ Cr.Opd N b live gen first x L ∧ Fo lo W w' := by
  have x0 : x.1.1 = y.1.1 := by rw [hx]
  have x1 : x.2.1 = y.2.1 := by rw [hx]
  rcases hd with ⟨hd, rfl⟩ | ⟨live, gen, first, base, bs, hd, rfl, g1, g2⟩
  · refine (Open_none h hlo hn hT hc0 hlim hlim2 (x0 ▸ b0) (x1 ▸ b1) (by rw [x0]; exact l0) (by rw [x1]; exact l1) (by rw [x0, x1]; exact hd.rep)).mono ?_
    rintro e w' ⟨j, e1, e2, e3⟩
    exact ⟨j, 0, 1, 1, _, e1, e2, hd.opd hN1 hx, e3⟩
  · obtain ⟨pend, hr⟩ := hd.rep l0 l1
    refine (Open_story (i := live) (s := ⟨true, true, (journalw gen first base bs).length, gen, first, base, bs, pend⟩) h hlo (by omega) hT hlim hlim2 (x0 ▸ b0) (x1 ▸ b1) (by rw [x0]; exact l0) (by rw [x1]; exact l1) (by rw [x0, x1]; exact hr) hd.lv hd.f1 (by show first + bs.length < _; omega)).mono ?_
    rintro e w' ⟨j, e1, e2, e3⟩
    exact ⟨j, live, gen, first, _, e1, e2, hd.opd (by omega) (by omega) g1 g2 hx, e3⟩
end Dev
end Go.Proofs.YtfimaflglnemdaaDoor
