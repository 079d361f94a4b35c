/- Several texts in one: JtN, JtP, JtQ. -/
import Derived.Test.YtfimaflglnemdaaDoorJqA
import Derived.Test.YtfimaflglnemdaaDoorJrV
/- The journal's rows: a file that was laid down, whole and cut short, as it reads. -/
namespace Go.Proofs.YtfimaflglnemdaaDoor
open JM
/-- Bodies that may stand in a base or a batch. -/
structure Gl (ls : List (List Nat)) : Prop where
  n : ls.length ≤ 8192
  b : ∀ x ∈ ls, x.length ≤ 2097152 ∧ ∀ y ∈ x, y < 256
theorem drop_next {l a x : List Nat} {pos : Nat} (h : l.drop pos = a ++ x) : l.drop (pos + a.length) = x := by
  rw [← List.drop_drop, h, List.drop_left]
theorem step_base1 {l body x : List Nat} {s : St} {pos : Nat} (h1 : s.headed = true) (h2 : s.live = false) (hd : l.drop pos = recw 2 s.base.length body ++ x) (hn : s.base.length < 8192) (hb : body.length ≤ 2097152) (hy : ∀ y ∈ body, y < 256) :
    s.step crcN l pos = .got ({ s with base := s.base ++ [body] }, pos + 22 + body.length) := by
  rw [step_base h1 h2, hd, recd_recw (by decide) (by omega) (by omega) hy (by
    unfold St.ok
    rw [if_neg (by rw [h1]; decide), if_pos h2, decide_eq_true (show 2 = 2 ∧ s.base.length = s.base.length ∧ s.base.length < 8192 ∧ body.length ≤ 2097152 from ⟨rfl, rfl, hn, hb⟩)]
    rfl)]
  rfl
theorem step_end1 {l x : List Nat} {s : St} {pos : Nat} (h1 : s.headed = true) (h2 : s.live = false) (hd : l.drop pos = recw 3 s.base.length [] ++ x) (hn : s.base.length ≤ 8192) :
    s.step crcN l pos = .got ({ s with live := true, good := pos + 22 }, pos + 22) := by
  rw [step_base h1 h2, hd, recd_recw (by decide) (by omega) (by simp) (fun y h => by cases h) (by
    unfold St.ok
    rw [if_neg (by rw [h1]; decide), if_pos h2, decide_eq_true (show 3 = 3 ∧ s.base.length = s.base.length ∧ ([] : List Nat).length = 0 from ⟨rfl, rfl, rfl⟩), Bool.or_true])]
  rfl
theorem step_pay1 {l body x : List Nat} {s : St} {pos : Nat} (h1 : s.headed = true) (h2 : s.live = true) (hd : l.drop pos = recw 4 s.pending.length body ++ x) (hn : s.pending.length < 8192) (hb : body.length ≤ 2097152) (hy : ∀ y ∈ body, y < 256) :
    s.step crcN l pos = .got ({ s with pending := s.pending ++ [body] }, pos + 22 + body.length) := by
  rw [step_batch h1 h2, hd, recd_recw (by decide) (by omega) (by omega) hy (by
    unfold St.ok
    rw [if_neg (by rw [h1]; decide), if_neg (by rw [h2]; decide), decide_eq_true (show 4 = 4 ∧ s.pending.length = s.pending.length ∧ s.pending.length < 8192 ∧ body.length ≤ 2097152 from ⟨rfl, rfl, hn, hb⟩)]
    rfl)]
  rfl
theorem step_com1 {l x : List Nat} {s : St} {pos : Nat} (h1 : s.headed = true) (h2 : s.live = true) (hd : l.drop pos = recw 5 (s.first + s.batches.length) (lb 4 s.pending.length) ++ x) (hn : s.pending.length ≤ 8192) (hm : s.first + s.batches.length ≤ 4611686018427387904) :
    s.step crcN l pos = .got ({ s with batches := s.batches ++ [s.pending], pending := [], good := pos + 26 }, pos + 26) := by
  rw [step_batch h1 h2, hd, recd_recw (by decide) (by omega) (by rw [lb_len]; decide) (lb_byt _ _) (by
    unfold St.ok
    rw [if_neg (by rw [h1]; decide), if_neg (by rw [h2]; decide), decide_eq_true (show 5 = 5 ∧ s.first + s.batches.length = s.first + s.batches.length ∧ s.first + s.batches.length ≤ 4611686018427387904 ∧ (lb 4 s.pending.length).length = 4 from ⟨rfl, rfl, hm, lb_len _ _⟩), Bool.or_true])]
  dsimp only
  rw [if_neg (by decide), le_lb 4 _ (by rw [p4]; omega), if_pos rfl, lb_len]
theorem step_head1 {l x : List Nat} {s : St} {pos gen first : Nat} (h1 : s.headed = false) (hd : l.drop pos = recw 1 gen (lb 8 first) ++ x) (g1 : 1 ≤ gen) (g2 : gen ≤ 4611686018427387904) (f1 : 1 ≤ first) (f2 : first ≤ 4611686018427387904) :
    s.step crcN l pos = .got ({ s with headed := true, gen := gen, first := first }, pos + 30) := by
  rw [step_head h1, hd, recd_recw (by decide) (by omega) (by rw [lb_len]; decide) (lb_byt _ _) (by
    unfold St.ok
    rw [if_pos h1, decide_eq_true (show 1 = 1 ∧ 1 ≤ gen ∧ gen ≤ 4611686018427387904 ∧ (lb 8 first).length = 8 from ⟨rfl, g1, g2, lb_len _ _⟩)])]
  dsimp only
  rw [le_lb 8 _ (by rw [p8]; omega), if_pos ⟨f1, f2⟩, lb_len]
/-- The base's bodies. -/
theorem from_bases : ∀ (ls : List (List Nat)) {l x : List Nat} {s : St} {pos : Nat}, s.headed = true → s.live = false → l.drop pos = recsw 2 s.base.length ls ++ x → s.base.length + ls.length ≤ 8192 → (∀ b ∈ ls, b.length ≤ 2097152 ∧ ∀ y ∈ b, y < 256) → from_ crcN l s pos = from_ crcN l { s with base := s.base ++ ls } (pos + sizes ls)
  | [], l, x, s, pos, _, _, _, _, _ => by simp [sizes]
  | b :: r, l, x, s, pos, h1, h2, hd, hn, hb => by
    rw [List.length_cons] at hn
    have hb0 := hb b (List.mem_cons_self ..)
    rw [recsw, List.append_assoc] at hd
    rw [from_step (step_base1 h1 h2 hd (by omega) hb0.1 hb0.2)]
    have hd2 := drop_next hd
    rw [recw_len] at hd2
    have := from_bases r (s := { s with base := s.base ++ [b] }) (pos := pos + 22 + b.length) (l := l) (x := x) h1 h2 (by
      show l.drop (pos + 22 + b.length) = recsw 2 (s.base ++ [b]).length r ++ x
      have e : pos + (22 + b.length) = pos + 22 + b.length := by omega
      rw [e] at hd2
      rw [List.length_append]; exact hd2) (by show (s.base ++ [b]).length + r.length ≤ 8192; simp; omega) (fun y hy => hb y (List.mem_cons_of_mem _ hy))
    rw [this]
    simp [sizes, Nat.add_assoc]
/-- The payloads of a batch. -/
theorem from_pays : ∀ (ls : List (List Nat)) {l x : List Nat} {s : St} {pos : Nat}, s.headed = true → s.live = true → l.drop pos = recsw 4 s.pending.length ls ++ x → s.pending.length + ls.length ≤ 8192 → (∀ b ∈ ls, b.length ≤ 2097152 ∧ ∀ y ∈ b, y < 256) → from_ crcN l s pos = from_ crcN l { s with pending := s.pending ++ ls } (pos + sizes ls)
  | [], l, x, s, pos, _, _, _, _, _ => by simp [sizes]
  | b :: r, l, x, s, pos, h1, h2, hd, hn, hb => by
    rw [List.length_cons] at hn
    have hb0 := hb b (List.mem_cons_self ..)
    rw [recsw, List.append_assoc] at hd
    rw [from_step (step_pay1 h1 h2 hd (by omega) hb0.1 hb0.2)]
    have hd2 := drop_next hd
    rw [recw_len] at hd2
    have := from_pays r (s := { s with pending := s.pending ++ [b] }) (pos := pos + 22 + b.length) (l := l) (x := x) h1 h2 (by
      show l.drop (pos + 22 + b.length) = recsw 4 (s.pending ++ [b]).length r ++ x
      have e : pos + (22 + b.length) = pos + 22 + b.length := by omega
      rw [e] at hd2
      rw [List.length_append]; exact hd2) (by show (s.pending ++ [b]).length + r.length ≤ 8192; simp; omega) (fun y hy => hb y (List.mem_cons_of_mem _ hy))
    rw [this]
    simp [sizes, Nat.add_assoc]
/-- A batch. -/
theorem from_batch {l x : List Nat} {s : St} {pos : Nat} {b : List (List Nat)} (h1 : s.headed = true) (h2 : s.live = true) (h3 : s.pending = []) (hd : l.drop pos = batchw (s.first + s.batches.length) b ++ x) (hb : Gl b) (hm : s.first + s.batches.length ≤ 4611686018427387904) :
    from_ crcN l s pos = from_ crcN l { s with batches := s.batches ++ [b], good := pos + (26 + sizes b) } (pos + (26 + sizes b)) := by
  unfold batchw at hd
  rw [List.append_assoc] at hd
  have e0 : s.pending.length = 0 := by rw [h3]; rfl
  rw [from_pays b h1 h2 (by rw [e0]; exact hd) (by rw [e0]; have := hb.n; omega) hb.b]
  have hd2 := drop_next hd
  rw [recsw_len] at hd2
  have hp : s.pending ++ b = b := by rw [h3]; rfl
  rw [hp]
  have := step_com1 (s := { s with pending := b }) (l := l) (pos := pos + sizes b) h1 h2 hd2 hb.n hm
  rw [from_step this, h3]
  have e : pos + sizes b + 26 = pos + (26 + sizes b) := by omega
  rw [e]
/-- Batches, one behind the other. -/
def batchesw : Nat → List (List (List Nat)) → List Nat
  | _, [] => []
  | n, b :: r => batchw n b ++ batchesw (n + 1) r
def bsizes : List (List (List Nat)) → Nat
  | [] => 0
  | b :: r => 26 + sizes b + bsizes r
theorem batchesw_len : ∀ n bs, (batchesw n bs).length = bsizes bs
  | _, [] => rfl
  | n, b :: r => by rw [batchesw, List.length_append, batchw_len, batchesw_len (n + 1) r, bsizes]
theorem from_batches : ∀ (bs : List (List (List Nat))) {l x : List Nat} {s : St} {pos : Nat}, s.headed = true → s.live = true → s.pending = [] → s.good = pos → l.drop pos = batchesw (s.first + s.batches.length) bs ++ x → (∀ b ∈ bs, Gl b) → s.first + s.batches.length + bs.length ≤ 4611686018427387905 →
    from_ crcN l s pos = from_ crcN l { s with batches := s.batches ++ bs, good := pos + bsizes bs } (pos + bsizes bs)
  | [], l, x, s, pos, _, _, _, hgd, _, _, _ => by
    subst hgd
    simp [bsizes]
  | b :: r, l, x, s, pos, h1, h2, h3, hgd, hd, hb, hm => by
    rw [List.length_cons] at hm
    rw [batchesw, List.append_assoc] at hd
    rw [from_batch h1 h2 h3 hd (hb b (List.mem_cons_self ..)) (by omega)]
    have hd2 := drop_next hd
    rw [batchw_len] at hd2
    have := from_batches r (s := { s with batches := s.batches ++ [b], good := pos + (26 + sizes b) }) (pos := pos + (26 + sizes b)) (l := l) (x := x) h1 h2 h3 rfl (by
      show l.drop _ = batchesw (s.first + (s.batches ++ [b]).length) r ++ x
      rw [List.length_append, hd2]; simp [Nat.add_assoc]) (fun y hy => hb y (List.mem_cons_of_mem _ hy)) (by show s.first + (s.batches ++ [b]).length + r.length ≤ _; simp; omega)
    rw [this]
    simp [bsizes, Nat.add_assoc]
/-- A file up to its base's end. -/
theorem from_head {l x : List Nat} {gen first : Nat} {base : List (List Nat)} (hd : l = basew gen first base ++ x) (g1 : 1 ≤ gen) (g2 : gen ≤ 4611686018427387904) (f1 : 1 ≤ first) (f2 : first ≤ 4611686018427387904) (hb : Gl base) :
    from_ crcN l St.new 0 = from_ crcN l ⟨true, true, 52 + sizes base, gen, first, base, [], []⟩ (52 + sizes base) := by
  unfold basew at hd
  rw [List.append_assoc] at hd
  have h0 : l.drop 0 = recw 1 gen (lb 8 first) ++ ((recsw 2 0 base ++ recw 3 base.length []) ++ x) := by rw [List.drop_zero]; exact hd
  rw [from_step (step_head1 (s := St.new) rfl h0 g1 g2 f1 f2)]
  have h1 := drop_next h0
  rw [recw_len, lb_len, List.append_assoc] at h1
  have := from_bases base (s := ⟨true, false, 0, gen, first, [], [], []⟩) (pos := 0 + 30) (l := l) rfl rfl h1 (by have := hb.n; simpa using this) hb.b
  have e0 : ({ St.new with headed := true, gen := gen, first := first } : St) = ⟨true, false, 0, gen, first, [], [], []⟩ := rfl
  rw [e0, this]
  have h2 := drop_next h1
  rw [recsw_len] at h2
  have := step_end1 (s := ⟨true, false, 0, gen, first, [] ++ base, [], []⟩) (l := l) (pos := 0 + 30 + sizes base) rfl rfl h2 hb.n
  rw [from_step this]
  have e : 0 + 30 + sizes base + 22 = 52 + sizes base := by omega
  rw [e]
  rfl
/-- A journal's file, whole. -/
def journalw (gen first : Nat) (base : List (List Nat)) (bs : List (List (List Nat))) : List Nat := basew gen first base ++ batchesw first bs
theorem journalw_len (gen first : Nat) (base : List (List Nat)) (bs : List (List (List Nat))) : (journalw gen first base bs).length = 52 + sizes base + bsizes bs := by rw [journalw, List.length_append, basew_len, batchesw_len]
theorem file_journal {gen first : Nat} {base : List (List Nat)} {bs : List (List (List Nat))} (g1 : 1 ≤ gen) (g2 : gen ≤ 4611686018427387904) (f1 : 1 ≤ first) (f2 : first + bs.length ≤ 4611686018427387905) (f3 : first ≤ 4611686018427387904) (hb : Gl base) (hbs : ∀ b ∈ bs, Gl b) :
    file crcN (journalw gen first base bs) = (⟨true, true, (journalw gen first base bs).length, gen, first, base, bs, []⟩, none) := by
  have h1 : from_ crcN (journalw gen first base bs) St.new 0 = _ := from_head (x := batchesw first bs) rfl g1 g2 f1 f3 hb
  have hd : (journalw gen first base bs).drop (52 + sizes base) = batchesw (first + ([] : List (List (List Nat))).length) bs ++ [] := by
    have : (journalw gen first base bs).drop (basew gen first base).length = batchesw first bs := List.drop_left
    rw [basew_len] at this
    rw [this, List.append_nil]
    rfl
  have h2 := from_batches bs (s := ⟨true, true, 52 + sizes base, gen, first, base, [], []⟩) (pos := 52 + sizes base) (l := journalw gen first base bs) (x := []) rfl rfl rfl rfl hd hbs (by simpa using f2)
  rw [journalw_len]
  exact h1.trans (h2.trans (from_end (by rw [journalw_len]; exact Nat.le_refl _)))
end Go.Proofs.YtfimaflglnemdaaDoor

/- The journal's rows: a journal's file that was cut short, as it reads. -/
namespace Go.Proofs.YtfimaflglnemdaaDoor
open JM
theorem take_past {a y : List Nat} {m : Nat} (h : a.length ≤ m) : (a ++ y).take m = a ++ y.take (m - a.length) := by
  rw [List.take_append, List.take_of_length_le h]
theorem take_within {a y : List Nat} {m : Nat} (h : m ≤ a.length) : (a ++ y).take m = a.take m := by
  rw [List.take_append, Nat.sub_eq_zero_of_le h, List.take_zero, List.append_nil]
/-- A record that is cut short. -/
theorem cut_rec {l body y : List Nat} {s : St} {pos k n m : Nat} (hd : l.drop pos = (recw k n body ++ y).take m) (hm : m < 22 + body.length) (hk : k < 256) (hn : n < 18446744073709551616) (hl : body.length < 4294967296) (hok : s.ok k n body.length = true) :
    from_ crcN l s pos = (s, none) := by
  rw [take_within (by rw [recw_len]; omega)] at hd
  refine from_torn ?_
  unfold St.step
  rw [hd, recd_cut hk hn hl hok hm]
theorem ok_base {s : St} {n : Nat} (h1 : s.headed = true) (h2 : s.live = false) (hn : s.base.length < 8192) (hb : n ≤ 2097152) : s.ok 2 s.base.length n = true := by
  unfold St.ok
  rw [if_neg (by rw [h1]; decide), if_pos h2, decide_eq_true (show 2 = 2 ∧ s.base.length = s.base.length ∧ s.base.length < 8192 ∧ n ≤ 2097152 from ⟨rfl, rfl, hn, hb⟩)]
  rfl
theorem ok_end {s : St} (h1 : s.headed = true) (h2 : s.live = false) : s.ok 3 s.base.length 0 = true := by
  unfold St.ok
  rw [if_neg (by rw [h1]; decide), if_pos h2, decide_eq_true (show 3 = 3 ∧ s.base.length = s.base.length ∧ 0 = 0 from ⟨rfl, rfl, rfl⟩), Bool.or_true]
theorem ok_pay {s : St} {n : Nat} (h1 : s.headed = true) (h2 : s.live = true) (hn : s.pending.length < 8192) (hb : n ≤ 2097152) : s.ok 4 s.pending.length n = true := by
  unfold St.ok
  rw [if_neg (by rw [h1]; decide), if_neg (by rw [h2]; decide), decide_eq_true (show 4 = 4 ∧ s.pending.length = s.pending.length ∧ s.pending.length < 8192 ∧ n ≤ 2097152 from ⟨rfl, rfl, hn, hb⟩)]
  rfl
theorem ok_com {s : St} (h1 : s.headed = true) (h2 : s.live = true) (hm : s.first + s.batches.length ≤ 4611686018427387904) : s.ok 5 (s.first + s.batches.length) 4 = true := by
  unfold St.ok
  rw [if_neg (by rw [h1]; decide), if_neg (by rw [h2]; decide), decide_eq_true (show 5 = 5 ∧ s.first + s.batches.length = s.first + s.batches.length ∧ s.first + s.batches.length ≤ 4611686018427387904 ∧ 4 = 4 from ⟨rfl, rfl, hm, rfl⟩), Bool.or_true]
theorem ok_head {s : St} {gen : Nat} (h1 : s.headed = false) (g1 : 1 ≤ gen) (g2 : gen ≤ 4611686018427387904) : s.ok 1 gen 8 = true := by
  unfold St.ok
  rw [if_pos h1, decide_eq_true (show 1 = 1 ∧ 1 ≤ gen ∧ gen ≤ 4611686018427387904 ∧ 8 = 8 from ⟨rfl, g1, g2, rfl⟩)]
theorem cut_bases : ∀ (ls : List (List Nat)) {l y : List Nat} {s : St} {pos m : Nat}, s.headed = true → s.live = false → l.drop pos = (recsw 2 s.base.length ls ++ y).take m → m < sizes ls → s.base.length + ls.length ≤ 8192 → (∀ b ∈ ls, b.length ≤ 2097152 ∧ ∀ y ∈ b, y < 256) → ∃ base, from_ crcN l s pos = ({ s with base := base }, none)
  | [], l, y, s, pos, m, _, _, _, hm, _, _ => by simp [sizes] at hm
  | b :: r, l, y, s, pos, m, h1, h2, hd, hm, hn, hb => by
    rw [List.length_cons] at hn
    have hb0 := hb b (List.mem_cons_self ..)
    rw [recsw, List.append_assoc] at hd
    by_cases hc : m < 22 + b.length
    · exact ⟨s.base, cut_rec hd hc (by decide) (by omega) (by omega) (ok_base h1 h2 (by omega) hb0.1)⟩
    rw [take_past (by rw [recw_len]; omega)] at hd
    have hd2 := drop_next hd
    rw [recw_len] at hd2
    rw [from_step (step_base1 h1 h2 hd (by omega) hb0.1 hb0.2)]
    have e : pos + (22 + b.length) = pos + 22 + b.length := by omega
    rw [e] at hd2
    obtain ⟨q, hq⟩ := cut_bases r (s := { s with base := s.base ++ [b] }) (pos := pos + 22 + b.length) (l := l) (y := y) (m := m - (22 + b.length)) h1 h2 (by
      show l.drop (pos + 22 + b.length) = (recsw 2 (s.base ++ [b]).length r ++ y).take _
      rw [List.length_append]; exact hd2) (by simp only [sizes] at hm; omega) (by show (s.base ++ [b]).length + r.length ≤ 8192; simp; omega) (fun y hy => hb y (List.mem_cons_of_mem _ hy))
    exact ⟨q, hq⟩
theorem cut_pays : ∀ (ls : List (List Nat)) {l y : List Nat} {s : St} {pos m : Nat}, s.headed = true → s.live = true → l.drop pos = (recsw 4 s.pending.length ls ++ y).take m → m < sizes ls → s.pending.length + ls.length ≤ 8192 → (∀ b ∈ ls, b.length ≤ 2097152 ∧ ∀ y ∈ b, y < 256) → ∃ pend, from_ crcN l s pos = ({ s with pending := pend }, none)
  | [], l, y, s, pos, m, _, _, _, hm, _, _ => by simp [sizes] at hm
  | b :: r, l, y, s, pos, m, h1, h2, hd, hm, hn, hb => by
    rw [List.length_cons] at hn
    have hb0 := hb b (List.mem_cons_self ..)
    rw [recsw, List.append_assoc] at hd
    by_cases hc : m < 22 + b.length
    · exact ⟨s.pending, cut_rec hd hc (by decide) (by omega) (by omega) (ok_pay h1 h2 (by omega) hb0.1)⟩
    rw [take_past (by rw [recw_len]; omega)] at hd
    have hd2 := drop_next hd
    rw [recw_len] at hd2
    rw [from_step (step_pay1 h1 h2 hd (by omega) hb0.1 hb0.2)]
    have e : pos + (22 + b.length) = pos + 22 + b.length := by omega
    rw [e] at hd2
    obtain ⟨q, hq⟩ := cut_pays r (s := { s with pending := s.pending ++ [b] }) (pos := pos + 22 + b.length) (l := l) (y := y) (m := m - (22 + b.length)) h1 h2 (by
      show l.drop (pos + 22 + b.length) = (recsw 4 (s.pending ++ [b]).length r ++ y).take _
      rw [List.length_append]; exact hd2) (by simp only [sizes] at hm; omega) (by show (s.pending ++ [b]).length + r.length ≤ 8192; simp; omega) (fun y hy => hb y (List.mem_cons_of_mem _ hy))
    exact ⟨q, hq⟩
/-- A batch that is cut short. -/
theorem cut_batch {l y : List Nat} {s : St} {pos m : Nat} {b : List (List Nat)} (h1 : s.headed = true) (h2 : s.live = true) (h3 : s.pending = []) (hd : l.drop pos = (batchw (s.first + s.batches.length) b ++ y).take m) (hc : m < 26 + sizes b) (hb : Gl b) (hm : s.first + s.batches.length ≤ 4611686018427387904) :
    ∃ pend, from_ crcN l s pos = ({ s with pending := pend }, none) := by
  unfold batchw at hd
  rw [List.append_assoc] at hd
  have e0 : s.pending.length = 0 := by rw [h3]; rfl
  by_cases hp : m < sizes b
  · exact cut_pays b h1 h2 (by rw [e0]; exact hd) hp (by rw [e0]; have := hb.n; omega) hb.b
  rw [take_past (by rw [recsw_len]; omega), recsw_len] at hd
  rw [from_pays b h1 h2 (by rw [e0]; exact hd) (by rw [e0]; have := hb.n; omega) hb.b]
  have hd2 := drop_next hd
  rw [recsw_len] at hd2
  refine ⟨_, cut_rec (s := { s with pending := s.pending ++ b }) hd2 (by rw [lb_len]; omega) (by decide) (by omega) (by rw [lb_len]; decide) ?_⟩
  rw [lb_len]
  exact ok_com (s := { s with pending := s.pending ++ b }) h1 h2 hm
/-- Batches that are cut short: those that are whole stand. -/
theorem cut_batches : ∀ (bs : List (List (List Nat))) {l : List Nat} {s : St} {pos m : Nat}, s.headed = true → s.live = true → s.pending = [] → s.good = pos → l.drop pos = (batchesw (s.first + s.batches.length) bs).take m → l.length = pos + m → m ≤ bsizes bs → (∀ b ∈ bs, Gl b) → s.first + s.batches.length + bs.length ≤ 4611686018427387905 →
    ∃ k pend, k ≤ bs.length ∧ bsizes (bs.take k) ≤ m ∧ (k < bs.length → m < bsizes (bs.take (k + 1))) ∧ from_ crcN l s pos = ({ s with batches := s.batches ++ bs.take k, good := pos + bsizes (bs.take k), pending := pend }, none)
  | [], l, s, pos, m, _, _, h3, hgd, _, hl, hm, _, _ => by
    have hm0 : m = 0 := by simpa [bsizes] using hm
    refine ⟨0, [], Nat.le_refl _, by simp [bsizes], fun h => absurd h (by simp), ?_⟩
    rw [from_end (by omega)]
    subst hgd
    simp [bsizes, ← h3]
  | b :: r, l, s, pos, m, h1, h2, h3, hgd, hd, hl, hm, hb, hf => by
    rw [List.length_cons] at hf
    rw [batchesw] at hd
    by_cases hc : m < 26 + sizes b
    · obtain ⟨q, hq⟩ := cut_batch h1 h2 h3 hd hc (hb b (List.mem_cons_self ..)) (by omega)
      refine ⟨0, q, Nat.zero_le _, by simp [bsizes], fun _ => by simpa [bsizes] using hc, ?_⟩
      rw [hq]
      subst hgd
      simp [bsizes]
    rw [take_past (by rw [batchw_len]; omega), batchw_len] at hd
    rw [from_batch h1 h2 h3 hd (hb b (List.mem_cons_self ..)) (by omega)]
    have hd2 := drop_next hd
    rw [batchw_len] at hd2
    obtain ⟨k, q, k1, k2, k3, k4⟩ := cut_batches r (s := { s with batches := s.batches ++ [b], good := pos + (26 + sizes b) }) (pos := pos + (26 + sizes b)) (l := l) (m := m - (26 + sizes b)) h1 h2 h3 rfl (by
      show l.drop _ = (batchesw (s.first + (s.batches ++ [b]).length) r).take _
      rw [List.length_append, hd2]; simp [Nat.add_assoc]) (by omega) (by simp only [bsizes] at hm; omega) (fun y hy => hb y (List.mem_cons_of_mem _ hy)) (by show s.first + (s.batches ++ [b]).length + r.length ≤ _; simp; omega)
    refine ⟨k + 1, q, by simp; omega, by simp only [List.take_succ_cons, bsizes]; omega, fun h => ?_, ?_⟩
    · have := k3 (by simpa using h)
      rw [List.take_succ_cons, bsizes]; omega
    · rw [k4]
      simp [bsizes, Nat.add_assoc]
/-- A file that is cut short before its base's end. -/
theorem cut_head {l y : List Nat} {gen first m : Nat} {base : List (List Nat)} (hd : l = (basew gen first base ++ y).take m) (hm : m < 52 + sizes base) (g1 : 1 ≤ gen) (g2 : gen ≤ 4611686018427387904) (f1 : 1 ≤ first) (f2 : first ≤ 4611686018427387904) (hb : Gl base) :
    ∃ s, from_ crcN l St.new 0 = (s, none) ∧ s.live = false ∧ s.good = 0 := by
  unfold basew at hd
  rw [List.append_assoc] at hd
  have h0 : l.drop 0 = (recw 1 gen (lb 8 first) ++ ((recsw 2 0 base ++ recw 3 base.length []) ++ y)).take m := by rw [List.drop_zero]; exact hd
  by_cases c1 : m < 30
  · exact ⟨_, cut_rec h0 (by rw [lb_len]; omega) (by decide) (by omega) (by rw [lb_len]; decide) (by rw [lb_len]; exact ok_head rfl g1 g2), rfl, rfl⟩
  rw [take_past (by rw [recw_len, lb_len]; omega), recw_len, lb_len] at h0
  rw [from_step (step_head1 (s := St.new) rfl h0 g1 g2 f1 f2)]
  have h1 := drop_next h0
  rw [recw_len, lb_len, List.append_assoc] at h1
  have e0 : ({ St.new with headed := true, gen := gen, first := first } : St) = ⟨true, false, 0, gen, first, [], [], []⟩ := rfl
  rw [e0]
  by_cases c2 : m - 30 < sizes base
  · obtain ⟨q, hq⟩ := cut_bases base (s := ⟨true, false, 0, gen, first, [], [], []⟩) (pos := 0 + 30) (l := l) rfl rfl h1 c2 (by have := hb.n; simpa using this) hb.b
    exact ⟨_, hq, rfl, rfl⟩
  rw [take_past (by rw [recsw_len]; omega), recsw_len] at h1
  have := from_bases base (s := ⟨true, false, 0, gen, first, [], [], []⟩) (pos := 0 + 30) (l := l) rfl rfl h1 (by have := hb.n; simpa using this) hb.b
  rw [this]
  have h2 := drop_next h1
  rw [recsw_len] at h2
  refine ⟨_, cut_rec (s := ⟨true, false, 0, gen, first, [] ++ base, [], []⟩) h2 (by simp; omega) (by decide) (by have := hb.n; omega) (by simp) (ok_end (s := ⟨true, false, 0, gen, first, [] ++ base, [], []⟩) rfl rfl), rfl, rfl⟩
/-- A journal's file that is cut short: torn before the base's end, or the batches that are whole. -/
theorem file_cut {gen first m : Nat} {base : List (List Nat)} {bs : List (List (List Nat))} (hm : m ≤ (journalw gen first base bs).length) (g1 : 1 ≤ gen) (g2 : gen ≤ 4611686018427387904) (f1 : 1 ≤ first) (f2 : first + bs.length ≤ 4611686018427387905) (f3 : first ≤ 4611686018427387904) (hb : Gl base) (hbs : ∀ b ∈ bs, Gl b) :
    (m < 52 + sizes base ∧ ∃ s, file crcN ((journalw gen first base bs).take m) = (s, none) ∧ s.live = false ∧ s.good = 0)
    ∨ (52 + sizes base ≤ m ∧ ∃ k pend, k ≤ bs.length ∧ 52 + sizes base + bsizes (bs.take k) ≤ m ∧ (k < bs.length → m < 52 + sizes base + bsizes (bs.take (k + 1))) ∧ file crcN ((journalw gen first base bs).take m) = (⟨true, true, 52 + sizes base + bsizes (bs.take k), gen, first, base, bs.take k, pend⟩, none)) := by
  rw [journalw_len] at hm
  by_cases hc : m < 52 + sizes base
  · exact Or.inl ⟨hc, cut_head (y := batchesw first bs) rfl hc g1 g2 f1 f3 hb⟩
  · refine Or.inr ⟨Nat.le_of_not_lt hc, ?_⟩
    have hl : ((journalw gen first base bs).take m).length = m := by rw [List.length_take, journalw_len]; omega
    have hj : (journalw gen first base bs).take m = basew gen first base ++ (batchesw first bs).take (m - (52 + sizes base)) := by
      unfold journalw
      rw [take_past (by rw [basew_len]; omega), basew_len]
    have h1 : from_ crcN ((journalw gen first base bs).take m) St.new 0 = _ := from_head hj g1 g2 f1 f3 hb
    have hd : ((journalw gen first base bs).take m).drop (52 + sizes base) = (batchesw (first + ([] : List (List (List Nat))).length) bs).take (m - (52 + sizes base)) := by
      rw [hj, ← basew_len gen first base, List.drop_left]
      rfl
    obtain ⟨k, q, k1, k2, k3, k4⟩ := cut_batches bs (s := ⟨true, true, 52 + sizes base, gen, first, base, [], []⟩) (pos := 52 + sizes base) (l := (journalw gen first base bs).take m) (m := m - (52 + sizes base)) rfl rfl rfl rfl hd (by rw [hl]; omega) (by omega) hbs (by simpa using f2)
    exact ⟨k, q, k1, by omega, fun h => by have := k3 h; omega, h1.trans (by rw [k4]; rfl)⟩
end Go.Proofs.YtfimaflglnemdaaDoor

/- The journal's rows: a byte of a journal's file that was turned is told. -/
namespace Go.Proofs.YtfimaflglnemdaaDoor
open JM
theorem zbN_inj {k a b : Nat} (ha : a < 2 ^ 32) (hb : b < 2 ^ 32) (h : zbN k a = zbN k b) : a = b := by
  have h1 : zbN k (a ^^^ b) = 0 := by rw [zbN_xor, h, Nat.xor_self]
  by_cases h0 : a ^^^ b = 0
  · exact xor_zero_eq h0
  · exact absurd h1 (zbN_ne k _ (Nat.xor_lt_two_pow ha hb) h0)
theorem xor_cancel {a b c : Nat} (h : a ^^^ b = a ^^^ c) : b = c := by
  have : a ^^^ (a ^^^ b) = a ^^^ (a ^^^ c) := by rw [h]
  rwa [← Nat.xor_assoc, ← Nat.xor_assoc, Nat.xor_self, Nat.zero_xor, Nat.zero_xor] at this
theorem xor_cancelR {a b c : Nat} (h : b ^^^ a = c ^^^ a) : b = c := xor_cancel (a := a) (by rw [Nat.xor_comm a b, Nat.xor_comm a c]; exact h)
theorem getD_lt {l : List Nat} (h : ∀ x ∈ l, x < 256) (k : Nat) : l.getD k 0 < 256 := by
  by_cases hj : k < l.length
  · have e : l.getD k 0 = l[k] := by simp [List.getD, hj]
    rw [e]; exact h _ (List.getElem_mem hj)
  · have e : l.getD k 0 = 0 := by simp [List.getD, hj]
    omega
/-- A CRC tells one byte that was turned. -/
theorem crc_turned {l : List Nat} {q v : Nat} (hb : ∀ x ∈ l, x < 256) (hq : q < l.length) (hv : v < 256) (hn : v ≠ l.getD q 0) : crcN (l.set q v) ≠ crcN l := by
  have hb2 : ∀ x ∈ l.set q v, x < 256 := fun x hx => by
    rcases List.mem_or_eq_of_mem_set hx with h | h
    · exact hb x h
    · omega
  have same : ∀ k, k ≤ q → reg (l.set q v) k = reg l k := by
    intro k
    induction k with
    | zero => intro _; rfl
    | succ k ih =>
      intro hk
      rw [reg, reg, ih (by omega)]
      have : (l.set q v).getD k 0 = l.getD k 0 := by simp [List.getD, show ¬ q = k by omega]
      rw [this]
  have oth : ∀ k, q < k → reg (l.set q v) k ≠ reg l k := by
    intro k
    induction k with
    | zero => intro h; omega
    | succ k ih =>
      intro hk
      rw [reg, reg]
      intro h
      have x32 : ∀ (m : List Nat), (∀ x ∈ m, x < 256) → reg m k ^^^ m.getD k 0 < 2 ^ 32 := fun m hm => Nat.xor_lt_two_pow (reg_lt m hm k) (by have := getD_lt hm k; omega)
      have h2 := zbN_inj (x32 _ hb2) (x32 _ hb) (zbN_inj (zbN_lt 4 _ (x32 _ hb2)) (zbN_lt 4 _ (x32 _ hb)) h)
      by_cases e : k = q
      · subst e
        rw [same k (Nat.le_refl _)] at h2
        have h3 := xor_cancel h2
        have : (l.set k v).getD k 0 = v := by simp [List.getD, hq]
        exact hn (this.symm.trans h3)
      · have : (l.set q v).getD k 0 = l.getD k 0 := by simp [List.getD, show ¬ q = k by omega]
        rw [this] at h2
        exact ih (by omega) (xor_cancelR h2)
  unfold crcN
  intro h
  rw [List.length_set] at h
  exact oth l.length hq (xor_cancel h)
theorem le_turned {l : List Nat} {q v : Nat} (hb : ∀ x ∈ l, x < 256) (hq : q < l.length) (hv : v < 256) (hn : v ≠ l.getD q 0) : le (l.set q v) ≠ le l := by
  intro h
  have hb2 : ∀ x ∈ l.set q v, x < 256 := fun x hx => by
    rcases List.mem_or_eq_of_mem_set hx with h | h
    · exact hb x h
    · omega
  have := le_inj _ _ hb2 hb (by rw [List.length_set]) h
  have e : (l.set q v).getD q 0 = v := by simp [List.getD, hq]
  rw [this] at e
  exact hn e.symm
theorem set_left {a b : List Nat} {q v : Nat} (h : q < a.length) : (a ++ b).set q v = a.set q v ++ b := by rw [List.set_append, if_pos h]
theorem set_right {a b : List Nat} {q v : Nat} (h : a.length ≤ q) : (a ++ b).set q v = a ++ b.set (q - a.length) v := by rw [List.set_append, if_neg (by omega)]
theorem getD_left {a b : List Nat} {q : Nat} (h : q < a.length) : (a ++ b).getD q 0 = a.getD q 0 := by simp [List.getD, List.getElem?_append_left h]
theorem getD_right {a b : List Nat} {q : Nat} (h : a.length ≤ q) : (a ++ b).getD q 0 = b.getD (q - a.length) 0 := by simp [List.getD, List.getElem?_append_right h]
/-- A record with a byte that was turned is bad. -/
theorem recd_turned {ok : Nat → Nat → Nat → Bool} {k n q v : Nat} {body x : List Nat} (hk : k < 256) (hn : n < 18446744073709551616) (hl : body.length < 4294967296) (hb : ∀ y ∈ body, y < 256) (hok : ok k n body.length = true) (hq : q < 22 + body.length) (hv : v < 256) (hne : v ≠ (recw k n body).getD q 0) :
    recd crcN ok ((recw k n body).set q v ++ x) = .bad := by
  have hc1 : crcN (fr14 k n body.length) < 256 ^ 4 := by rw [p4]; exact crc_lt32 _ (fr14_byt hk)
  have hc2 : crcN body < 256 ^ 4 := by rw [p4]; exact crc_lt32 _ hb
  have hF := fr14_len k n body.length
  have hln : ((recw k n body).set q v ++ x).length = 22 + body.length + x.length := by rw [List.length_append, List.length_set, recw_len]
  have e0 : recw k n body = fr14 k n body.length ++ (lb 4 (crcN (fr14 k n body.length)) ++ (body ++ lb 4 (crcN body))) := by simp [recw, fr18]
  by_cases c1 : q < 14
  · rw [e0, getD_left (by omega)] at hne
    have e1 : (recw k n body).set q v ++ x = (fr14 k n body.length).set q v ++ (lb 4 (crcN (fr14 k n body.length)) ++ ((body ++ lb 4 (crcN body)) ++ x)) := by rw [e0, set_left (by omega)]; simp
    have ht : ((recw k n body).set q v ++ x).take 14 = (fr14 k n body.length).set q v := by
      rw [e1, List.take_append_of_le_length (by rw [List.length_set]; omega), List.take_of_length_le (by rw [List.length_set]; omega)]
    have hd : (((recw k n body).set q v ++ x).drop 14).take 4 = lb 4 (crcN (fr14 k n body.length)) := by
      rw [e1, List.drop_append_of_le_length (by rw [List.length_set]; omega), List.drop_of_length_le (by rw [List.length_set]; omega), List.nil_append, List.take_append_of_le_length (by rw [lb_len]; exact Nat.le_refl _), List.take_of_length_le (by rw [lb_len]; exact Nat.le_refl _)]
    unfold recd
    by_cases h0 : ((recw k n body).set q v ++ x).getD 0 0 = 158
    · rw [if_neg (by rw [h0]; simp), if_neg (by omega)]
      refine if_pos (Or.inl ?_)
      rw [ht, hd, le_lb 4 _ hc1]
      exact crc_turned (fr14_byt hk) (by omega) hv hne
    · rw [if_pos ⟨by omega, h0⟩]
  · rw [e0, getD_right (by omega), hF] at hne
    have h0 : ((recw k n body).set q v ++ x).getD 0 0 = 158 := by
      rw [e0, set_right (by omega), List.append_assoc, getD_left (by omega)]; rfl
    have ht : ((recw k n body).set q v ++ x).take 14 = fr14 k n body.length := by
      rw [e0, set_right (by omega), List.append_assoc, List.take_append_of_le_length (by omega), List.take_of_length_le (by omega)]
    unfold recd
    rw [if_neg (by rw [h0]; simp), if_neg (by omega)]
    by_cases c2 : q < 18
    · rw [getD_left (by rw [lb_len]; omega)] at hne
      have hd : (((recw k n body).set q v ++ x).drop 14).take 4 = (lb 4 (crcN (fr14 k n body.length))).set (q - 14) v := by
        rw [e0, set_right (by omega), hF, set_left (by rw [lb_len]; omega), List.append_assoc, List.drop_append_of_le_length (by omega), List.drop_of_length_le (by omega), List.nil_append, List.append_assoc, List.take_append_of_le_length (by rw [List.length_set, lb_len]; exact Nat.le_refl _), List.take_of_length_le (by rw [List.length_set, lb_len]; exact Nat.le_refl _)]
      refine if_pos (Or.inl ?_)
      rw [ht, hd]
      intro h
      refine le_turned (lb_byt _ _) (by rw [lb_len]; omega) hv hne (h.symm.trans ?_)
      rw [le_lb 4 _ hc1]
    · rw [getD_right (by rw [lb_len]; omega), lb_len] at hne
      have e1 : (recw k n body).set q v ++ x = fr18 k n body.length ++ ((body ++ lb 4 (crcN body)).set (q - 18) v ++ x) := by
        rw [e0, set_right (by omega), hF, set_right (by rw [lb_len]; omega), lb_len, show q - 14 - 4 = q - 18 by omega]
        simp [fr18]
      rw [show q - 14 - 4 = q - 18 by omega] at hne
      have hlen : le ((((recw k n body).set q v ++ x).drop 10).take 4) = body.length := by rw [e1, front_lng, le_lb 4 _ (by rw [p4]; omega)]
      rw [hlen, if_neg ?_, if_neg (by omega), if_pos ?_]
      · by_cases c3 : q - 18 < body.length
        · rw [getD_left c3] at hne
          rw [set_left c3] at e1
          have hbd : (((recw k n body).set q v ++ x).drop 18).take body.length = body.set (q - 18) v := by
            rw [e1, front_rest, List.append_assoc, List.take_append_of_le_length (by rw [List.length_set]; exact Nat.le_refl _), List.take_of_length_le (by rw [List.length_set]; exact Nat.le_refl _)]
          have hsm : (((recw k n body).set q v ++ x).drop (18 + body.length)).take 4 = lb 4 (crcN body) := by
            rw [e1, ← List.drop_drop, front_rest, List.append_assoc, List.drop_append_of_le_length (by rw [List.length_set]; exact Nat.le_refl _), List.drop_of_length_le (by rw [List.length_set]; exact Nat.le_refl _), List.nil_append, List.take_append_of_le_length (by rw [lb_len]; exact Nat.le_refl _), List.take_of_length_le (by rw [lb_len]; exact Nat.le_refl _)]
          rw [hbd, hsm, le_lb 4 _ hc2]
          exact crc_turned hb c3 hv hne
        · rw [getD_right (by omega)] at hne
          rw [set_right (by omega)] at e1
          have hbd : (((recw k n body).set q v ++ x).drop 18).take body.length = body := by
            rw [e1, front_rest, List.append_assoc, List.take_append_of_le_length (Nat.le_refl _), List.take_length]
          have hsm : (((recw k n body).set q v ++ x).drop (18 + body.length)).take 4 = (lb 4 (crcN body)).set (q - 18 - body.length) v := by
            rw [e1, ← List.drop_drop, front_rest, List.append_assoc, List.drop_left, List.take_append_of_le_length (by rw [List.length_set, lb_len]; exact Nat.le_refl _), List.take_of_length_le (by rw [List.length_set, lb_len]; exact Nat.le_refl _)]
          rw [hbd, hsm]
          intro h
          refine le_turned (lb_byt _ _) (by rw [lb_len]; omega) hv hne (h.symm.trans ?_)
          rw [le_lb 4 _ hc2]
      · rw [ht, e1, front_sum, le_lb 4 _ hc1, front_1, front_num, le_lb 8 _ (by rw [p8]; exact hn), hok]
        simp
theorem drop_pos {l a : List Nat} {pos : Nat} (h : l.drop pos = a) (ha : 0 < a.length) : pos < l.length := by
  rcases Nat.lt_or_ge pos l.length with q | q
  · exact q
  · rw [List.drop_eq_nil_of_le q] at h
    subst h
    simp at ha
theorem turn_rec {l body y : List Nat} {s : St} {pos k n q v : Nat} (hd : l.drop pos = (recw k n body ++ y).set q v) (hq : q < 22 + body.length) (hv : v < 256) (hne : v ≠ (recw k n body ++ y).getD q 0) (hk : k < 256) (hn : n < 18446744073709551616) (hl : body.length < 4294967296) (hb : ∀ y ∈ body, y < 256) (hok : s.ok k n body.length = true) :
    from_ crcN l s pos = (s, some pos) := by
  have hp := drop_pos hd (by rw [List.length_set, List.length_append, recw_len]; omega)
  rw [set_left (by rw [recw_len]; exact hq)] at hd
  rw [getD_left (by rw [recw_len]; exact hq)] at hne
  refine from_bad hp ?_
  unfold St.step
  rw [hd, recd_turned hk hn hl hb hok hq hv hne]
theorem turn_bases : ∀ (ls : List (List Nat)) {l y : List Nat} {s : St} {pos q v : Nat}, s.headed = true → s.live = false → l.drop pos = (recsw 2 s.base.length ls ++ y).set q v → q < sizes ls → v < 256 → v ≠ (recsw 2 s.base.length ls ++ y).getD q 0 → s.base.length + ls.length ≤ 8192 → (∀ b ∈ ls, b.length ≤ 2097152 ∧ ∀ y ∈ b, y < 256) → ∃ s' p, from_ crcN l s pos = (s', some p) ∧ p ≤ pos + q
  | [], l, y, s, pos, q, v, _, _, _, hq, _, _, _, _ => by simp [sizes] at hq
  | b :: r, l, y, s, pos, q, v, h1, h2, hd, hq, hv, hne, hn, hb => by
    rw [List.length_cons] at hn
    have hb0 := hb b (List.mem_cons_self ..)
    rw [recsw, List.append_assoc] at hd hne
    by_cases hc : q < 22 + b.length
    · exact ⟨s, pos, turn_rec hd hc hv hne (by decide) (by omega) (by omega) hb0.2 (ok_base h1 h2 (by omega) hb0.1), by omega⟩
    rw [set_right (by rw [recw_len]; omega), recw_len] at hd
    rw [getD_right (by rw [recw_len]; omega), recw_len] at hne
    have hd2 := drop_next hd
    rw [recw_len] at hd2
    rw [from_step (step_base1 h1 h2 hd (by omega) hb0.1 hb0.2)]
    have e : pos + (22 + b.length) = pos + 22 + b.length := by omega
    rw [e] at hd2
    have hz : (s.base ++ [b]).length = s.base.length + 1 := by simp
    obtain ⟨s', p, hp, hle⟩ := turn_bases r (s := { s with base := s.base ++ [b] }) (pos := pos + 22 + b.length) (l := l) (y := y) (q := q - (22 + b.length)) (v := v) h1 h2 (by
      show l.drop (pos + 22 + b.length) = (recsw 2 (s.base ++ [b]).length r ++ y).set _ _
      rw [hz]; exact hd2) (by simp only [sizes] at hq; omega) hv (by
      show v ≠ (recsw 2 (s.base ++ [b]).length r ++ y).getD _ 0
      rw [hz]; exact hne) (by show (s.base ++ [b]).length + r.length ≤ 8192; simp; omega) (fun y hy => hb y (List.mem_cons_of_mem _ hy))
    exact ⟨s', p, hp, by omega⟩
theorem turn_pays : ∀ (ls : List (List Nat)) {l y : List Nat} {s : St} {pos q v : Nat}, s.headed = true → s.live = true → l.drop pos = (recsw 4 s.pending.length ls ++ y).set q v → q < sizes ls → v < 256 → v ≠ (recsw 4 s.pending.length ls ++ y).getD q 0 → s.pending.length + ls.length ≤ 8192 → (∀ b ∈ ls, b.length ≤ 2097152 ∧ ∀ y ∈ b, y < 256) → ∃ s' p, from_ crcN l s pos = (s', some p) ∧ p ≤ pos + q
  | [], l, y, s, pos, q, v, _, _, _, hq, _, _, _, _ => by simp [sizes] at hq
  | b :: r, l, y, s, pos, q, v, h1, h2, hd, hq, hv, hne, hn, hb => by
    rw [List.length_cons] at hn
    have hb0 := hb b (List.mem_cons_self ..)
    rw [recsw, List.append_assoc] at hd hne
    by_cases hc : q < 22 + b.length
    · exact ⟨s, pos, turn_rec hd hc hv hne (by decide) (by omega) (by omega) hb0.2 (ok_pay h1 h2 (by omega) hb0.1), by omega⟩
    rw [set_right (by rw [recw_len]; omega), recw_len] at hd
    rw [getD_right (by rw [recw_len]; omega), recw_len] at hne
    have hd2 := drop_next hd
    rw [recw_len] at hd2
    rw [from_step (step_pay1 h1 h2 hd (by omega) hb0.1 hb0.2)]
    have e : pos + (22 + b.length) = pos + 22 + b.length := by omega
    rw [e] at hd2
    have hz : (s.pending ++ [b]).length = s.pending.length + 1 := by simp
    obtain ⟨s', p, hp, hle⟩ := turn_pays r (s := { s with pending := s.pending ++ [b] }) (pos := pos + 22 + b.length) (l := l) (y := y) (q := q - (22 + b.length)) (v := v) h1 h2 (by
      show l.drop (pos + 22 + b.length) = (recsw 4 (s.pending ++ [b]).length r ++ y).set _ _
      rw [hz]; exact hd2) (by simp only [sizes] at hq; omega) hv (by
      show v ≠ (recsw 4 (s.pending ++ [b]).length r ++ y).getD _ 0
      rw [hz]; exact hne) (by show (s.pending ++ [b]).length + r.length ≤ 8192; simp; omega) (fun y hy => hb y (List.mem_cons_of_mem _ hy))
    exact ⟨s', p, hp, by omega⟩
theorem turn_batch {l y : List Nat} {s : St} {pos q v : Nat} {b : List (List Nat)} (h1 : s.headed = true) (h2 : s.live = true) (h3 : s.pending = []) (hd : l.drop pos = (batchw (s.first + s.batches.length) b ++ y).set q v) (hc : q < 26 + sizes b) (hv : v < 256) (hne : v ≠ (batchw (s.first + s.batches.length) b ++ y).getD q 0) (hb : Gl b) (hm : s.first + s.batches.length ≤ 4611686018427387904) :
    ∃ s' p, from_ crcN l s pos = (s', some p) ∧ p ≤ pos + q := by
  unfold batchw at hd hne
  rw [List.append_assoc] at hd hne
  have e0 : s.pending.length = 0 := by rw [h3]; rfl
  by_cases hp : q < sizes b
  · exact turn_pays b h1 h2 (by rw [e0]; exact hd) hp hv (by rw [e0]; exact hne) (by rw [e0]; have := hb.n; omega) hb.b
  rw [set_right (by rw [recsw_len]; omega), recsw_len] at hd
  rw [getD_right (by rw [recsw_len]; omega), recsw_len] at hne
  rw [from_pays b h1 h2 (by rw [e0]; exact hd) (by rw [e0]; have := hb.n; omega) hb.b]
  have hd2 := drop_next hd
  rw [recsw_len] at hd2
  refine ⟨_, _, turn_rec (s := { s with pending := s.pending ++ b }) hd2 (by rw [lb_len]; omega) hv hne (by decide) (by omega) (by rw [lb_len]; decide) (lb_byt _ _) ?_, by omega⟩
  rw [lb_len]
  exact ok_com (s := { s with pending := s.pending ++ b }) h1 h2 hm
theorem turn_batches : ∀ (bs : List (List (List Nat))) {l : List Nat} {s : St} {pos q v : Nat}, s.headed = true → s.live = true → s.pending = [] → s.good = pos → l.drop pos = (batchesw (s.first + s.batches.length) bs).set q v → q < bsizes bs → v < 256 → v ≠ (batchesw (s.first + s.batches.length) bs).getD q 0 → (∀ b ∈ bs, Gl b) → s.first + s.batches.length + bs.length ≤ 4611686018427387905 →
    ∃ s' p, from_ crcN l s pos = (s', some p) ∧ p ≤ pos + q
  | [], l, s, pos, q, v, _, _, _, _, _, hq, _, _, _, _ => by simp [bsizes] at hq
  | b :: r, l, s, pos, q, v, h1, h2, h3, hgd, hd, hq, hv, hne, hb, hf => by
    rw [List.length_cons] at hf
    rw [batchesw] at hd hne
    by_cases hc : q < 26 + sizes b
    · exact turn_batch h1 h2 h3 hd hc hv hne (hb b (List.mem_cons_self ..)) (by omega)
    rw [set_right (by rw [batchw_len]; omega), batchw_len] at hd
    rw [getD_right (by rw [batchw_len]; omega), batchw_len] at hne
    rw [from_batch h1 h2 h3 hd (hb b (List.mem_cons_self ..)) (by omega)]
    have hd2 := drop_next hd
    rw [batchw_len] at hd2
    have hz : s.first + (s.batches ++ [b]).length = s.first + s.batches.length + 1 := by simp; omega
    obtain ⟨s', p, hp, hle⟩ := turn_batches r (s := { s with batches := s.batches ++ [b], good := pos + (26 + sizes b) }) (pos := pos + (26 + sizes b)) (l := l) (q := q - (26 + sizes b)) (v := v) h1 h2 h3 rfl (by
      show l.drop _ = (batchesw (s.first + (s.batches ++ [b]).length) r).set _ _
      rw [hz, hd2]) (by simp only [bsizes] at hq; omega) hv (by
      show v ≠ (batchesw (s.first + (s.batches ++ [b]).length) r).getD _ 0
      rw [hz]; exact hne) (fun y hy => hb y (List.mem_cons_of_mem _ hy)) (by show s.first + (s.batches ++ [b]).length + r.length ≤ _; simp; omega)
    exact ⟨s', p, hp, by omega⟩
theorem turn_head {l y : List Nat} {gen first q v : Nat} {base : List (List Nat)} (hd : l = (basew gen first base ++ y).set q v) (hq : q < 52 + sizes base) (hv : v < 256) (hne : v ≠ (basew gen first base ++ y).getD q 0) (g1 : 1 ≤ gen) (g2 : gen ≤ 4611686018427387904) (f1 : 1 ≤ first) (f2 : first ≤ 4611686018427387904) (hb : Gl base) :
    ∃ s p, from_ crcN l St.new 0 = (s, some p) ∧ p ≤ q := by
  unfold basew at hd hne
  rw [List.append_assoc] at hd hne
  have h0 : l.drop 0 = (recw 1 gen (lb 8 first) ++ ((recsw 2 0 base ++ recw 3 base.length []) ++ y)).set q v := by rw [List.drop_zero]; exact hd
  by_cases c1 : q < 30
  · exact ⟨_, _, turn_rec h0 (by rw [lb_len]; omega) hv hne (by decide) (by omega) (by rw [lb_len]; decide) (lb_byt _ _) (by rw [lb_len]; exact ok_head rfl g1 g2), by omega⟩
  rw [set_right (by rw [recw_len, lb_len]; omega), recw_len, lb_len] at h0
  rw [getD_right (by rw [recw_len, lb_len]; omega), recw_len, lb_len, List.append_assoc] at hne
  rw [from_step (step_head1 (s := St.new) rfl h0 g1 g2 f1 f2)]
  have h1 := drop_next h0
  rw [recw_len, lb_len, List.append_assoc] at h1
  have e0 : ({ St.new with headed := true, gen := gen, first := first } : St) = ⟨true, false, 0, gen, first, [], [], []⟩ := rfl
  rw [e0]
  by_cases c2 : q - 30 < sizes base
  · obtain ⟨s', p, hp, hle⟩ := turn_bases base (s := ⟨true, false, 0, gen, first, [], [], []⟩) (pos := 0 + 30) (l := l) rfl rfl h1 c2 hv hne (by have := hb.n; simpa using this) hb.b
    exact ⟨_, _, hp, by omega⟩
  rw [set_right (by rw [recsw_len]; omega), recsw_len] at h1
  rw [getD_right (by rw [recsw_len]; omega), recsw_len] at hne
  have := from_bases base (s := ⟨true, false, 0, gen, first, [], [], []⟩) (pos := 0 + 30) (l := l) rfl rfl h1 (by have := hb.n; simpa using this) hb.b
  rw [this]
  have h2 := drop_next h1
  rw [recsw_len] at h2
  exact ⟨_, _, turn_rec (s := ⟨true, false, 0, gen, first, [] ++ base, [], []⟩) h2 (by simp; omega) hv hne (by decide) (by have := hb.n; omega) (by simp) (fun y h => by cases h) (ok_end (s := ⟨true, false, 0, gen, first, [] ++ base, [], []⟩) rfl rfl), by omega⟩
/-- A byte of a journal's file that was turned is told, at a place not behind it. -/
theorem file_turned {gen first q v : Nat} {base : List (List Nat)} {bs : List (List (List Nat))} (hq : q < (journalw gen first base bs).length) (hv : v < 256) (hne : v ≠ (journalw gen first base bs).getD q 0) (g1 : 1 ≤ gen) (g2 : gen ≤ 4611686018427387904) (f1 : 1 ≤ first) (f2 : first + bs.length ≤ 4611686018427387905) (f3 : first ≤ 4611686018427387904) (hb : Gl base) (hbs : ∀ b ∈ bs, Gl b) :
    ∃ s p, file crcN ((journalw gen first base bs).set q v) = (s, some p) ∧ p ≤ q := by
  rw [journalw_len] at hq
  by_cases hc : q < 52 + sizes base
  · exact turn_head (y := batchesw first bs) rfl hc hv hne g1 g2 f1 f3 hb
  · have hj : (journalw gen first base bs).set q v = basew gen first base ++ (batchesw first bs).set (q - (52 + sizes base)) v := by
      unfold journalw
      rw [set_right (by rw [basew_len]; omega), basew_len]
    unfold journalw at hne
    rw [getD_right (by rw [basew_len]; omega), basew_len] at hne
    have h1 : from_ crcN ((journalw gen first base bs).set q v) St.new 0 = _ := from_head hj g1 g2 f1 f3 hb
    have hd : ((journalw gen first base bs).set q v).drop (52 + sizes base) = (batchesw (first + ([] : List (List (List Nat))).length) bs).set (q - (52 + sizes base)) v := by
      rw [hj]
      have := List.drop_left (l₁ := basew gen first base) (l₂ := (batchesw first bs).set (q - (52 + sizes base)) v)
      rw [basew_len] at this
      exact this
    obtain ⟨s', p, hp, hle⟩ := turn_batches bs (s := ⟨true, true, 52 + sizes base, gen, first, base, [], []⟩) (pos := 52 + sizes base) rfl rfl rfl rfl hd (by omega) hv hne hbs (by simpa using f2)
    exact ⟨s', p, h1.trans hp, by omega⟩
end Go.Proofs.YtfimaflglnemdaaDoor
