/- JournalReplays: the document's one: ahead of its walk. -/
import Derived.Test.YtlhpkpedooklnaaDoorJsG
import Derived.Test.YtlhpkpedooklnaaDoorJsB
namespace Go.Proofs.YtlhpkpedooklnaaDoor
open Go.RowKit
open JM
theorem mkS_inj {a b : List Nat} (ha : Byt a) (hb : Byt b) (h : mkS a = mkS b) : a = b := by
  have h1 : (a.map UInt8.ofNat).toArray = (b.map UInt8.ofNat).toArray := by
    unfold mkS at h
    injection h
  have h2 : a.map UInt8.ofNat = b.map UInt8.ofNat := by simpa using h1
  have key : ∀ (x y : List Nat), Byt x → Byt y → x.map UInt8.ofNat = y.map UInt8.ofNat → x = y := by
    intro x
    induction x with
    | nil => intro y _ _ h; cases y with
      | nil => rfl
      | cons => simp at h
    | cons c x ih =>
      intro y hx hy h
      cases y with
      | nil => simp at h
      | cons d y =>
        simp only [List.map_cons, List.cons.injEq] at h
        have hc := hx c (List.mem_cons_self ..)
        have hd := hy d (List.mem_cons_self ..)
        have : c = d := by
          have := congrArg UInt8.toNat h.1
          simpa [Nat.mod_eq_of_lt hc, Nat.mod_eq_of_lt hd] using this
        rw [this, ih y (fun z hz => hx z (List.mem_cons_of_mem _ hz)) (fun z hz => hy z (List.mem_cons_of_mem _ hz)) h.2]
  exact key a b ha hb h2
/-- A sum that is laid down, against four bytes. -/
theorem sum_eq {c : Nat} {x : List Nat} (hc : c < 4294967296) (hx : Byt x) (hl : x.length = 4) : mkS (leb 4 c) = mkS x ↔ c = le x := by
  have h256 : c < 256 ^ 4 := by rw [show (256 : Nat) ^ 4 = 4294967296 by decide]; exact hc
  constructor
  · intro h
    rw [← mkS_inj (leb_byt 4 c) hx h, le_leb 4 c h256]
  · intro h
    rw [h]
    congr 1
    exact le_inj _ _ (leb_byt 4 _) hx (by rw [leb_len, hl]) (by rw [le_leb 4 _ (by rw [← h]; exact h256)])
theorem take_drop' (l : List Nat) (a n : Nat) : (l.take (a + n)).drop a = (l.drop a).take n := by
  rw [List.drop_take, Nat.add_sub_cancel_left]
/-- A cut out of the midst. -/
theorem cut_mid {W : World} {oa : Option Addr} {cap : Nat} {l : List Nat} (h : Bl W (.slice oa l.length cap) l) (a n : Nat) (hb : a + n ≤ l.length) (x y : Int) (hx : x = (a : Int)) (hy : y = ((a + n : Nat) : Int)) : ∃ o', (∀ W', (slB (.slice oa l.length cap) (some (.int .i64 x)) (some (.int .i64 y)) none).run Tryd.prog W' = .ok (.slice o' n (cap - a)) W') ∧ Bl W (.slice o' n (cap - a)) ((l.drop a).take n) := by
  obtain ⟨o', h1, h2⟩ := cut_lh h a (a + n) (by omega) hb
  rw [Nat.add_sub_cancel_left] at h1 h2
  rw [take_drop'] at h2
  subst hx hy
  exact ⟨o', h1, h2⟩
/-- How a record of the document's ends. -/
def OneP (B g : Nat) (W : World) (l : List Nat) (s : St) (pos : Nat) (e : Ending) (w' : World) : Prop :=
  Bu B g W w' ∧ match s.step crcN l pos with
  | .bad => e = .returned (.tuple #[.int .i64 (pos : Int), .int .i64 2]) ∧ RdS B g w' s
  | .torn => e = .returned (.tuple #[.int .i64 (pos : Int), .int .i64 1]) ∧ RdS B g w' s
  | .got sp => e = .returned (.tuple #[.int .i64 (sp.2 : Int), .int .i64 0]) ∧ RdS B g w' sp.1
/-- What may be together. -/
def Sok (s : St) : Prop := (s.live = false → s.pending = [] ∧ s.batches = []) ∧ (s.headed = false → s.live = false)
theorem takes_any (B g : Nat) (W : World) (s : St) (v : Value) (body : List Nat) (k num stop : Nat) (hS : RdS B g W s) (hg : g < B) (hB : B ≤ W.heap.size) (hv : Bl W v body) (hlim : body.length ≤ LIM) (hok : s.ok k num body.length = true) (hs : Sok s) (b1 : s.base.length < 100000000) (b2 : s.batches.length < 100000000) (b3 : s.pending.length < 100000000) :
    Calls Tryd.prog 23 #[.pointer (some ⟨g, 0, none⟩), .int .i64 (k : Int), .int .i64 (num : Int), v, .int .i64 (stop : Int)] W (TakesP B g W s ⟨k, num, body⟩ stop) := by
  unfold St.ok at hok
  cases hh : s.headed with
  | false =>
    rw [if_pos hh] at hok
    have hq := of_decide_eq_true hok
    obtain rfl := hq.1
    exact takes1 B g W s v body num stop hS hg hB hv hq.2.2.2 hh
  | true =>
    rw [if_neg (by rw [hh]; decide)] at hok
    cases hl : s.live with
    | false =>
      rw [if_pos hl] at hok
      simp only [Bool.or_eq_true, decide_eq_true_eq] at hok
      rcases hok with hq | hq
      · obtain rfl := hq.1
        exact takes2 B g W s v body num stop hS hg hB hv hlim hh hl b1 (hs.1 hl).1 (hs.1 hl).2
      · obtain rfl := hq.1
        exact takes3 B g W s v body num stop hS hg hh hl
    | true =>
      rw [if_neg (by rw [hl]; decide)] at hok
      simp only [Bool.or_eq_true, decide_eq_true_eq] at hok
      rcases hok with hq | hq
      · obtain rfl := hq.1
        exact takes4 B g W s v body num stop hS hg hB hv hlim hh hl b3
      · obtain rfl := hq.1
        exact takes5 B g W s v body num stop hS hg hB hv hq.2.2.2 hh hl b2
end Go.Proofs.YtlhpkpedooklnaaDoor
