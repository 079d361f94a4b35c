/- Two texts exchanged in a sentence: the mathematics. -/
import Derived.Test.YtceclpabdfncoaaDoorRcJa
namespace Go.Proofs.YtceclpabdfncoaaDoor.Re
open Go.RowKit
/-- A text of 32 bytes without a blank. -/
def W32 (x : S) : Prop := (bl x).length = 32 ∧ (32 : UInt8) ∉ bl x
def Ks (C : List Pai) : Prop := ∀ p ∈ C, W32 p.1
theorem Ks.ne {C : List Pai} (h : Ks C) : NE C := fun x hx q => by
  have := (h x hx).1
  rw [q] at this
  simp at this
theorem hit_blank {C : List Pai} (h : Ks C) (p r : Bts) (hp : p.length < 32) : hit C (p ++ 32 :: r) = none := hit_none.2 fun x hx q => by
  obtain ⟨h1, h2⟩ := h x hx
  obtain ⟨t, e⟩ := q
  apply h2
  have e1 : (bl x.1)[p.length]? = some 32 := by
    have : (bl x.1 ++ t)[p.length]? = some 32 := by rw [e]; simp
    rwa [List.getElem?_append_left (by omega)] at this
  exact List.mem_of_getElem? e1
theorem SW_word {C : List Pai} (h : Ks C) (r : Bts) : ∀ p : Bts, p.length < 32 → SW C (p ++ 32 :: r) = p ++ 32 :: SW C r
  | [], hp => SW_miss h.ne (hit_blank h [] r hp)
  | c :: p, hp => by
    have q : hit C (c :: (p ++ 32 :: r)) = none := hit_blank h (c :: p) r hp
    rw [List.cons_append, SW_miss h.ne q, SW_word h r p (by simp at hp; omega)]
    rfl
theorem SW_short {C : List Pai} (h : Ks C) {s : Bts} (hs : s.length < 32) : SW C s = s := SW_all h.ne fun k => hit_none.2 fun x hx q => by
  have := q.length_le
  have := (h x hx).1
  simp at *
  omega
theorem SW_key {C : List Pai} (h : Ks C) (hp : PF C) {x y : S} (hx : (x, y) ∈ C) (r : Bts) : SW C (bl x ++ r) = bl y ++ SW C r := by
  rw [SW_hit h.ne (hit_of hp hx ⟨r, rfl⟩)]
  simp
/-- Two texts of one length, unlike. -/
theorem apt2 {x y : S} (hx : W32 x) (hy : W32 y) (hn : x ≠ y) : Apt [x, y] := by
  have key : ∀ {a b : S}, W32 a → W32 b → a ≠ b → ¬ bl a <:+: bl b := fun {a b} ha hb hab q => hab (bl_inj (q.eq_of_length (ha.1.trans hb.1.symm)))
  refine ⟨?_, ?_⟩
  · intro a ha q
    simp at ha
    rcases ha with rfl | rfl
    · have := hx.1; rw [q] at this; simp at this
    · have := hy.1; rw [q] at this; simp at this
  · simp only [List.pairwise_cons, List.mem_singleton, forall_eq, List.not_mem_nil, List.Pairwise.nil, and_true, false_implies, implies_true]
    exact ⟨key hx hy hn, key hy hx (Ne.symm hn)⟩
theorem not_apt5 {x z : S} (h : bl z <+: bl x) : ¬ Apt [x, z] := fun ha => by
  have := ha.2
  simp only [List.pairwise_cons, List.mem_singleton, forall_eq] at this
  exact this.1.2 h.isInfix
def SEE : S := ⟨#[115, 101, 101, 32]⟩
def AND : S := ⟨#[32, 97, 110, 100, 32]⟩
def BLA : S := ⟨#[32]⟩
def NON : S := ⟨#[110, 111, 110, 101]⟩
/-- The sentence. -/
def sen (x y : S) : S := SEE ++ x ++ AND ++ y ++ BLA ++ x
theorem bl_sen (x y : S) : bl (sen x y) = [115, 101, 101] ++ 32 :: (bl x ++ ([] ++ 32 :: ([97, 110, 100] ++ 32 :: (bl y ++ ([] ++ 32 :: bl x))))) := by
  unfold sen
  simp only [bl_app]
  simp [bl, SEE, AND, BLA]
theorem ks2 {x y : S} (hx : W32 x) (hy : W32 y) : Ks ([x, y].zip [y, x]) := fun p hp => by
  simp at hp
  rcases hp with rfl | rfl
  · exact hx
  · exact hy
theorem pf2 {x y : S} (hx : W32 x) (hy : W32 y) (hn : x ≠ y) : PF ([x, y].zip [y, x]) := Apt.pf (apt2 hx hy hn)
theorem swS_sen {x y : S} (hx : W32 x) (hy : W32 y) (hn : x ≠ y) : swS ([x, y].zip [y, x]) (sen x y) = sen y x := bl_inj (by
  have k := ks2 hx hy
  have p := pf2 hx hy hn
  have m1 : (x, y) ∈ [x, y].zip [y, x] := by simp
  have m2 : (y, x) ∈ [x, y].zip [y, x] := by simp
  rw [bl_swS, bl_sen, bl_sen, SW_word k _ _ (by simp), SW_key k p m1, SW_word k _ _ (by simp), SW_word k _ _ (by simp), SW_key k p m2, SW_word k _ _ (by simp)]
  have e : SW ([x, y].zip [y, x]) (bl x) = bl y := by
    have := SW_key k p m1 []
    rwa [List.append_nil, SW_nil, List.append_nil] at this
  rw [e])
theorem swS_non {C : List Pai} (h : Ks C) : swS C NON = NON := bl_inj (by rw [bl_swS]; exact SW_short h (by simp [bl, NON]))
end Go.Proofs.YtceclpabdfncoaaDoor.Re
