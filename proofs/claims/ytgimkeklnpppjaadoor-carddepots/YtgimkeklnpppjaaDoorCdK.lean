/- Package card: lines, numbers, faults. -/
import Derived.Test.YtgimkeklnpppjaaDoorCdN
import Derived.Test.YtgimkeklnpppjaaDoorCdS
import Derived.Test.YtgimkeklnpppjaaDoorCdE
import Derived.Shelf.Strconv.Itoa3
import Derived.Shelf.Strconv.AtoiAll
namespace Go.Proofs.YtgimkeklnpppjaaDoor
open Go.RowKit Go.Shelf
/-- What a line begins with. -/
def hdS (f : Nat) : ByteArray := if f = 12 then ⟨#[83, 116, 111, 114, 101, 58, 32]⟩ else if f = 13 then ⟨#[77, 97, 115, 115, 58, 32]⟩ else ⟨#[80, 114, 105, 111, 114, 105, 116, 121, 58, 32]⟩
theorem hdS_size (f : Nat) : (hdS f).size ≤ 10 ∧ 1 ≤ (hdS f).size := by
  unfold hdS
  split
  · exact ⟨by decide, by decide⟩
  · split <;> exact ⟨by decide, by decide⟩
/-- The errors that a card's faults hold. -/
structure Sen where
  lo : Addr
  ta : Addr
  sh : Addr
  li : Addr
  ma : Addr
  fi : Addr
/-- The tables and the errors lie. -/
structure Wd (S : Sen) (w : World) : Prop where
  sz : 13 < w.heap.size
  hd : ∀ f, 12 ≤ f → f ≤ 14 → w.cell? ⟨5, f, none⟩ = some (.string (hdS f))
  lo : w.cell? ⟨0, 0, none⟩ = some (.iface 135 (.pointer (some S.lo)))
  ta : w.cell? ⟨1, 0, none⟩ = some (.iface 135 (.pointer (some S.ta)))
  sh : w.cell? ⟨2, 0, none⟩ = some (.iface 135 (.pointer (some S.sh)))
  li : w.cell? ⟨3, 0, none⟩ = some (.iface 135 (.pointer (some S.li)))
  ma : w.cell? ⟨4, 0, none⟩ = some (.iface 135 (.pointer (some S.ma)))
  fi : w.cell? ⟨7, 0, none⟩ = some (.iface 135 (.pointer (some S.fi)))
  et : w.cell? ⟨6, 0, none⟩ = some (.iface 82 (.agg #[.pointer (some ⟨14, 33, none⟩)]))
  es : ∃ te pe, w.cell? ⟨10, 0, none⟩ = some (.iface te pe)
  er : ∃ te pe, w.cell? ⟨11, 0, none⟩ = some (.iface te pe)
  pw : Lib.TabIs Tryd.prog w "internal/strconv.uint64pow10" .u64 Lib.pow10Tab
  rows : ∀ a, a = S.lo ∨ a = S.ta ∨ a = S.sh ∨ a = S.li ∨ a = S.ma ∨ a = S.fi → ∃ c t, w.heap[a.block]? = some (.cells c t (0, 0))
  dif : [S.lo, S.ta, S.sh, S.li, S.ma, S.fi].Nodup
theorem gPw : Tryd.prog.globalNamed "internal/strconv.uint64pow10" = some 8 := by kernel_rfl
theorem tab_keep {w w' : World} (h : Lib.TabIs Tryd.prog w "internal/strconv.uint64pow10" .u64 Lib.pow10Tab) (hb : w'.heap[8]? = w.heap[8]?) : Lib.TabIs Tryd.prog w' "internal/strconv.uint64pow10" .u64 Lib.pow10Tab := by
  unfold Lib.TabIs at h ⊢
  rw [← h]
  unfold World.var?
  rw [gPw]
  simp only [Option.bind_some]
  rw [hb]
theorem Wd.below {S : Sen} {w w' : World} (h : Wd S w) (b : Below w.heap.size w w') : Wd S w' := by
  have sz := h.sz
  have k : ∀ g i, g < 14 → w'.cell? ⟨g, i, none⟩ = w.cell? ⟨g, i, none⟩ := fun g i hg => World.cell?_of_block (w := w) (b.block g (by omega))
  refine ⟨Nat.lt_of_lt_of_le sz b.size, fun f h1 h2 => (k _ _ (by decide)).trans (h.hd f h1 h2), (k _ _ (by decide)).trans h.lo, (k _ _ (by decide)).trans h.ta, (k _ _ (by decide)).trans h.sh, (k _ _ (by decide)).trans h.li, (k _ _ (by decide)).trans h.ma, (k _ _ (by decide)).trans h.fi, (k _ _ (by decide)).trans h.et, ?_, ?_, tab_keep h.pw (b.block _ (by omega)), ?_, h.dif⟩
  · obtain ⟨a, c, e⟩ := h.es
    exact ⟨a, c, (k _ _ (by decide)).trans e⟩
  · obtain ⟨a, c, e⟩ := h.er
    exact ⟨a, c, (k _ _ (by decide)).trans e⟩
  · intro a ha
    obtain ⟨c, t, e⟩ := h.rows a ha
    exact ⟨c, t, (b.block _ (Array.getElem?_eq_some_iff.1 e).1).trans e⟩
def nl : ByteArray := ⟨#[10]⟩
def lineT (f : Nat) (v : ByteArray) : ByteArray := hdS f ++ v ++ nl
set_option maxRecDepth 100000 in
set_option maxHeartbeats 1000000 in
theorem printLine_any (f : Nat) (h1 : 12 ≤ f) (h2 : f ≤ 14) (v : ByteArray) (hv : v.size ≤ 1000) (S : Sen) (w : World) (hw : Wd S w) :
    Calls Tryd.prog 15 #[.int .i64 (f : Int), .string v] w fun e w' => e = .returned (.string (lineT f v)) ∧ w' = w := by
  have hc := hw.hd f h1 h2
  obtain ⟨H, hH⟩ : ∃ H, H = hdS f := ⟨_, rfl⟩
  have hz := (hdS_size f).1
  rw [← hH] at hc hz
  have HT : Hid (lineT f v = H ++ v ++ ⟨#[10]⟩) := by show _ = _; rw [hH]; rfl
  have i1 : (0 : Int) ≤ (f : Int) := by omega
  have i2 : (f : Int) < 15 := by omega
  have z1 : ¬ (9223372036854775807 < H.size + v.size) := by omega
  have z2 : ¬ (9223372036854775807 < (H ++ v).size + (⟨#[10]⟩ : ByteArray).size) := by rw [ByteArray.size_append]; show ¬ (_ < _ + 1); omega
  clear hH hw h1 h2 hv hz
  go_enter Tryd.func15, Tryd.ntmps15
  go_wp2
  go_ret
  exact ⟨by rw [HT.out]; rfl, rfl⟩
set_option maxRecDepth 100000 in
set_option maxHeartbeats 1000000 in
theorem lengthOf_any (f : Nat) (h1 : 12 ≤ f) (h2 : f ≤ 14) (v : ByteArray) (hv : v.size ≤ 131072) (S : Sen) (w : World) (hw : Wd S w) :
    Calls Tryd.prog 19 #[.int .i64 (f : Int), .string v] w fun e w' => e = .returned (.int .i64 (((hdS f).size + v.size + 1 : Nat) : Int)) ∧ w' = w := by
  have hc := hw.hd f h1 h2
  obtain ⟨H, hH⟩ : ∃ H, H = hdS f := ⟨_, rfl⟩
  have hz := (hdS_size f).1
  rw [← hH] at hc hz ⊢
  have i1 : (0 : Int) ≤ (f : Int) := by omega
  have i2 : (f : Int) < 15 := by omega
  obtain ⟨m, hm⟩ : ∃ m, m = H.size + v.size := ⟨_, rfl⟩
  have w1 : IntKind.i64.wrap ((H.size : Int) + (v.size : Int)) = (m : Int) := by rw [IntKind.wrap_i64]; omega
  have w2 : IntKind.i64.wrap ((m : Int) + 1) = ((m + 1 : Nat) : Int) := by rw [IntKind.wrap_i64]; omega
  rw [← hm]
  clear hH hw h1 h2 hv hz hm
  go_enter Tryd.func19, Tryd.ntmps19
  go_wp2
  go_ret
  exact ⟨rfl, rfl⟩
end Go.Proofs.YtgimkeklnpppjaaDoor
