/- No two ways of making have one text. -/
import Derived.Test.YtffghlbgbfhfdaaDoorLnG
namespace Go.Proofs.YtffghlbgbfhfdaaDoor
open Go.RowKit Go.Shelf Go.Sort
def c13 : ByteArray := ⟨#[58, 47, 103, 114, 97, 102, 116, 47, 115, 116, 111, 114, 101]⟩
theorem c14_bl : bl c14 = bl c13 ++ [58] := by decide
theorem say_bl (f : Fg) : bl (sayT f) = (bl (headT f) ++ (bl c8 ++ (bl (str (hexL f.sm)) ++ bl c13))) ++ 58 :: bl f.nm := by
  unfold sayT
  rw [bl_app, bl_app, bl_app, bl_app, c14_bl]
  simp
theorem self_last {M N : List Lb} (h : M.map prT ++ [bl selfW] = N.map prT) : False := by
  have : bl selfW ∈ N.map prT := by rw [← h]; simp
  obtain ⟨x, _, hx⟩ := List.mem_map.1 this
  exact prT_self x hx
theorem say_inj {f g : Fg} (of : Ok f) (og : Ok g) (h : sayT f = sayT g) : f.k = g.k ∧ dd (srt f.L) = dd (srt g.L) ∧ f.self = g.self ∧ f.out = g.out ∧ f.ix = g.ix ∧ f.sm = g.sm ∧ f.nm = g.nm := by
  have h0 := congrArg bl h
  rw [say_bl, say_bl] at h0
  obtain ⟨h1, h2⟩ := last_inj _ _ _ _ (okN_nc of.nm) (okN_nc og.nm) h0
  have en : f.nm = g.nm := bl_inj h2
  have zf : (bl (str (hexL f.sm))).length = 64 := by rw [bl_len, str_size, hexL_len, f.hl]
  have zg : (bl (str (hexL g.sm))).length = 64 := by rw [bl_len, str_size, hexL_len, g.hl]
  obtain ⟨h3, h4⟩ := List.append_inj' h1 (by simp [zf, zg])
  have h5 := List.append_cancel_left h4
  have h6 := (List.append_inj h5 (by rw [zf, zg])).1
  have es : f.sm = g.sm := hexL_inj _ _ f.hb g.hb (str_inj (hexL_byt _ f.hb) (hexL_byt _ g.hb) (bl_inj h6))
  rw [head_bl, head_bl] at h3
  obtain ⟨h7, h8⟩ := fl_inj _ _ _ _ (kwV_nc _) (kwV_nc _) (tlP_nc of) (tlP_nc og) h3
  have ek : f.k = g.k := kwV_inj ⟨of.k1, of.k4⟩ ⟨og.k1, og.k4⟩ h7
  obtain ⟨f1, f2, f3, f4⟩ := un_facts of
  obtain ⟨g1, g2, g3, g4⟩ := un_facts og
  have Bf : ∀ x ∈ dd (srt f.L), Byt x.h := fun x hx => ((dd_ok of).2 x hx).2.2
  have Bg : ∀ x ∈ dd (srt g.L), Byt x.h := fun x hx => ((dd_ok og).2 x hx).2.2
  have k1 := of.k1
  have k4 := of.k4
  have hc : f.k = 1 ∨ f.k = 2 ∨ f.k = 3 ∨ f.k = 4 := by omega
  rcases hc with hk | hk | hk | hk
  · have a1 : f.self = false := f2 (by omega)
    have a2 : g.self = false := g2 (by omega)
    rw [tlP_12 (by omega), tlP_12 (by omega), a1, a2] at h8
    simp only [Bool.false_eq_true, if_false, List.append_nil] at h8
    exact ⟨ek, map_inj Bf Bg h8, by rw [a1, a2], by rw [f3 (by omega), g3 (by omega)], by rw [f4 (by omega), g4 (by omega)], es, en⟩
  · rw [tlP_12 (by omega), tlP_12 (by omega)] at h8
    have e1 : f.out = g.out := by rw [f3 (by omega), g3 (by omega)]
    have e2 : f.ix = g.ix := by rw [f4 (by omega), g4 (by omega)]
    cases hf : f.self <;> cases hg : g.self <;> rw [hf, hg] at h8 <;> simp only [Bool.false_eq_true, if_false, if_true, List.append_nil] at h8
    · exact ⟨ek, map_inj Bf Bg h8, rfl, e1, e2, es, en⟩
    · exact (self_last h8.symm).elim
    · exact (self_last h8).elim
    · exact ⟨ek, map_inj Bf Bg (List.append_cancel_right h8), rfl, e1, e2, es, en⟩
  · have l1 : f.L = [] := f1 (by omega)
    have l2 : g.L = [] := g1 (by omega)
    have a1 : f.self = false := f2 (by omega)
    have a2 : g.self = false := g2 (by omega)
    unfold tlP at h8
    rw [l1, l2, dd_none, a1, a2, if_pos hk, if_pos (show g.k = 3 by omega)] at h8
    simp only [Bool.false_eq_true, if_false, List.map_nil, List.nil_append, List.cons.injEq, and_true] at h8
    exact ⟨ek, by rw [l1, l2], by rw [a1, a2], bl_inj h8, by rw [f4 (by omega), g4 (by omega)], es, en⟩
  · have l1 : f.L = [] := f1 (by omega)
    have l2 : g.L = [] := g1 (by omega)
    have a1 : f.self = false := f2 (by omega)
    have a2 : g.self = false := g2 (by omega)
    unfold tlP at h8
    rw [l1, l2, dd_none, a1, a2, if_neg (show ¬ f.k = 3 by omega), if_neg (show ¬ g.k = 3 by omega), if_pos hk, if_pos (show g.k = 4 by omega)] at h8
    simp only [Bool.false_eq_true, if_false, List.map_nil, List.nil_append, List.cons.injEq, and_true] at h8
    have i1 := of.i0
    have i2 := of.i6
    have i3 := og.i0
    have i4 := og.i6
    have b1 := atoi_itoa f.ix.toNat (by omega)
    have b2 := atoi_itoa g.ix.toNat (by omega)
    rw [h8, b2] at b1
    have b3 := Option.some.inj b1
    exact ⟨ek, by rw [l1, l2], by rw [a1, a2], by rw [f3 (by omega), g3 (by omega)], by omega, es, en⟩
theorem say_same {f g : Fg} (h : f.k = g.k ∧ dd (srt f.L) = dd (srt g.L) ∧ f.self = g.self ∧ f.out = g.out ∧ f.ix = g.ix ∧ f.sm = g.sm ∧ f.nm = g.nm) : sayT f = sayT g := by
  obtain ⟨h1, h2, h3, h4, h5, h6, h7⟩ := h
  unfold sayT headT tlT
  rw [h1, h2, h3, h4, h5, h6, h7]
end Go.Proofs.YtffghlbgbfhfdaaDoor
