/- CardDepots: the tables and the errors lie. -/
import Derived.Test.YtgimkeklnpppjaaDoorCdTab
namespace Go.Proofs.YtgimkeklnpppjaaDoor.DCd
open Go.ChangeShapes Go.WideShapes Go.ChangeAt Go.RowKit
set_option maxRecDepth 100000
def laid13 : List (String × DataW Unit) := [("math/bits.deBruijn32tab", Rows.laid_math_bits_deBruijn32tab), ("math/bits.deBruijn64tab", Rows.laid_math_bits_deBruijn64tab), ("internal/strconv.uint64pow10", Rows.laid_internal_strconv_uint64pow10), ("errors.errorType", Rows.laid_errors_errorType), ("strconv.ErrRange", Rows.laid_strconv_ErrRange), ("strconv.ErrSyntax", Rows.laid_strconv_ErrSyntax), ("graft/card.errLong", Rows.laid_graft_card_errLong), ("graft/card.errShort", Rows.laid_graft_card_errShort), ("graft/card.errTail", Rows.laid_graft_card_errTail), ("graft/card.errLine", Rows.laid_graft_card_errLine), ("graft/card.errField", Rows.laid_graft_card_errField), ("graft/card.errMark", Rows.laid_graft_card_errMark), ("graft/card.heads", Rows.laid_graft_card_heads)]
def laid12 : List (String × DataW Unit) := [("math/bits.deBruijn32tab", Rows.laid_math_bits_deBruijn32tab), ("math/bits.deBruijn64tab", Rows.laid_math_bits_deBruijn64tab), ("internal/strconv.uint64pow10", Rows.laid_internal_strconv_uint64pow10), ("strconv.ErrRange", Rows.laid_strconv_ErrRange), ("strconv.ErrSyntax", Rows.laid_strconv_ErrSyntax), ("graft/card.errLong", Rows.laid_graft_card_errLong), ("graft/card.errShort", Rows.laid_graft_card_errShort), ("graft/card.errTail", Rows.laid_graft_card_errTail), ("graft/card.errLine", Rows.laid_graft_card_errLine), ("graft/card.errField", Rows.laid_graft_card_errField), ("graft/card.errMark", Rows.laid_graft_card_errMark), ("graft/card.heads", Rows.laid_graft_card_heads)]
theorem laid_some : laid13.filter (fun x => x.2.handleName?.isSome) = [("errors.errorType", Rows.laid_errors_errorType)] := by kernel_rfl
theorem laid_none : laid13.filter (fun x => x.2.handleName?.isNone) = laid12 := by kernel_rfl
theorem parts {W : World} (h : laidMetH Tryd.prog laid13 W) : laidMet Tryd.prog laid12 W ∧ handlesMet Tryd.prog [("errors.errorType", Rows.laid_errors_errorType)] W := by
  unfold laidMetH at h
  rw [laid_some, laid_none] at h
  exact h
theorem gEt : Tryd.prog.globalNamed "errors.errorType" = some 6 := by kernel_rfl
theorem rtT : (Tryd.prog.cutTypes.find? (·.1 == "internal/reflectlite.rtype")).map (·.2) = some 82 := by kernel_rfl
theorem oneRow : ((List.range 166).filter fun t => Tryd.prog.rowNamed t [101, 114, 114, 111, 114]) = [33] := by kernel_rfl
theorem sizeT : Tryd.prog.types.size = 166 := by kernel_rfl
theorem et_of {W : World} (h : handlesMet Tryd.prog [("errors.errorType", Rows.laid_errors_errorType)] W) : W.cell? ⟨6, 0, none⟩ = some (.iface 82 (.agg #[.pointer (some ⟨14, 33, none⟩)])) := by
  obtain ⟨name, u, ty, e1, e2, e3, e4, e5⟩ := h _ (List.mem_singleton.2 rfl)
  have en : name = [101, 114, 114, 111, 114] := (Option.some.inj e1).symm
  subst en
  obtain rfl := Option.some.inj (rtT.symm.trans e2)
  have hm : ty ∈ (List.range 166).filter fun t => Tryd.prog.rowNamed t [101, 114, 114, 111, 114] := List.mem_filter.2 ⟨List.mem_range.2 (by rw [← sizeT]; exact e3), e4⟩
  rw [oneRow] at hm
  obtain rfl := List.mem_singleton.1 hm
  have hh : typeHandle Tryd.prog 33 = .pointer (some ⟨14, 33, none⟩) := by kernel_rfl
  rw [hh] at e5
  simpa using World.var?_cell gEt e5 0
theorem g_er : Tryd.prog.globalNamed "strconv.ErrRange" = some 11 := by kernel_rfl
theorem t_er : (Tryd.prog.globals[11]?).map (·.type) = some 33 := by kernel_rfl
theorem g_es : Tryd.prog.globalNamed "strconv.ErrSyntax" = some 10 := by kernel_rfl
theorem t_es : (Tryd.prog.globals[10]?).map (·.type) = some 33 := by kernel_rfl
theorem g_lo : Tryd.prog.globalNamed "graft/card.errLong" = some 0 := by kernel_rfl
theorem t_lo : (Tryd.prog.globals[0]?).map (·.type) = some 33 := by kernel_rfl
theorem g_sh : Tryd.prog.globalNamed "graft/card.errShort" = some 2 := by kernel_rfl
theorem t_sh : (Tryd.prog.globals[2]?).map (·.type) = some 33 := by kernel_rfl
theorem g_ta : Tryd.prog.globalNamed "graft/card.errTail" = some 1 := by kernel_rfl
theorem t_ta : (Tryd.prog.globals[1]?).map (·.type) = some 33 := by kernel_rfl
theorem g_li : Tryd.prog.globalNamed "graft/card.errLine" = some 3 := by kernel_rfl
theorem t_li : (Tryd.prog.globals[3]?).map (·.type) = some 33 := by kernel_rfl
theorem g_fi : Tryd.prog.globalNamed "graft/card.errField" = some 7 := by kernel_rfl
theorem t_fi : (Tryd.prog.globals[7]?).map (·.type) = some 33 := by kernel_rfl
theorem g_ma : Tryd.prog.globalNamed "graft/card.errMark" = some 4 := by kernel_rfl
theorem t_ma : (Tryd.prog.globals[4]?).map (·.type) = some 33 := by kernel_rfl
theorem gPw : Tryd.prog.globalNamed "internal/strconv.uint64pow10" = some 8 := by kernel_rfl
theorem tPw : (Tryd.prog.globals[8]?).map (·.type) = some 108 := by kernel_rfl
theorem gHd : Tryd.prog.globalNamed "graft/card.heads" = some 5 := by kernel_rfl
theorem tHd : (Tryd.prog.globals[5]?).map (·.type) = some 56 := by kernel_rfl
theorem gB6 : Tryd.prog.globalNamed "math/bits.deBruijn64tab" = some 13 := by kernel_rfl
theorem addr_ne {W : World} {a c : Addr} {s t : ByteArray} (h1 : W.cell? a = some (.string s)) (h2 : W.cell? c = some (.string t)) (h : ¬ s.size = t.size) : a ≠ c := by
  rintro rfl
  rw [h1] at h2
  injection h2 with h2
  injection h2 with h2
  exact h (by rw [h2])
theorem wd_of_laid {W : World} (h : laidMetH Tryd.prog laid13 W) : ∃ S, Wd S W := by
  obtain ⟨⟨ps, hl, -, hps⟩, hh⟩ := parts h
  obtain ⟨b_er, o_er, c_er, x_er, r_er⟩ := sen_of hl hps g_er t_er (List.mem_of_getElem? (i := 3) rfl)
  obtain ⟨b_es, o_es, c_es, x_es, r_es⟩ := sen_of hl hps g_es t_es (List.mem_of_getElem? (i := 4) rfl)
  obtain ⟨b_lo, o_lo, c_lo, x_lo, r_lo⟩ := sen_of hl hps g_lo t_lo (List.mem_of_getElem? (i := 5) rfl)
  obtain ⟨b_sh, o_sh, c_sh, x_sh, r_sh⟩ := sen_of hl hps g_sh t_sh (List.mem_of_getElem? (i := 6) rfl)
  obtain ⟨b_ta, o_ta, c_ta, x_ta, r_ta⟩ := sen_of hl hps g_ta t_ta (List.mem_of_getElem? (i := 7) rfl)
  obtain ⟨b_li, o_li, c_li, x_li, r_li⟩ := sen_of hl hps g_li t_li (List.mem_of_getElem? (i := 8) rfl)
  obtain ⟨b_fi, o_fi, c_fi, x_fi, r_fi⟩ := sen_of hl hps g_fi t_fi (List.mem_of_getElem? (i := 9) rfl)
  obtain ⟨b_ma, o_ma, c_ma, x_ma, r_ma⟩ := sen_of hl hps g_ma t_ma (List.mem_of_getElem? (i := 10) rfl)
  obtain ⟨g1, t1, cs1, fu1, p1, h1, h2, h3, h4, -, -⟩ := laid_mem hl "internal/strconv.uint64pow10" Rows.laid_internal_strconv_uint64pow10 (List.mem_of_getElem? (i := 2) rfl)
  obtain rfl := Option.some.inj (gPw.symm.trans h1)
  obtain rfl := Option.some.inj (tPw.symm.trans h2)
  obtain ⟨g2, t2, cs2, fu2, p2, k1, k2, k3, k4, -, -⟩ := laid_mem hl "graft/card.heads" Rows.laid_graft_card_heads (List.mem_of_getElem? (i := 11) rfl)
  obtain rfl := Option.some.inj (gHd.symm.trans k1)
  obtain rfl := Option.some.inj (tHd.symm.trans k2)
  obtain ⟨g3, t3, cs3, fu3, p3, j1, j2, j3, j4, -, -⟩ := laid_mem hl "math/bits.deBruijn64tab" Rows.laid_math_bits_deBruijn64tab (List.mem_of_getElem? (i := 1) rfl)
  obtain rfl := Option.some.inj (gB6.symm.trans j1)
  obtain ⟨ta3, fa3, ra3⟩ := var_row gB6 j3
  obtain ⟨ta2, fa2, ra2⟩ := var_row gHd k3
  have hsz : 13 < W.heap.size := (Array.getElem?_eq_some_iff.1 ra3).1
  have hhd : ∀ f, 12 ≤ f → f ≤ 14 → W.cell? ⟨5, f, none⟩ = some (.string (hdS f)) := fun f h1 h2 => by
    have hc : cs2[f]? = some (.string (hdS f)) := by
      rcases (by omega : f = 12 ∨ f = 13 ∨ f = 14) with rfl | rfl | rfl
      · have := heads_at k4 12 (by omega) [83, 116, 111, 114, 101, 58, 32] rfl
        simpa [hdS] using this
      · have := heads_at k4 13 (by omega) [77, 97, 115, 115, 58, 32] rfl
        simpa [hdS] using this
      · have := heads_at k4 14 (by omega) [80, 114, 105, 111, 114, 105, 116, 121, 58, 32] rfl
        simpa [hdS] using this
    simp [World.cell?, ra2, hc]
  have hpw : Lib.TabIs Tryd.prog W "internal/strconv.uint64pow10" .u64 Lib.pow10Tab := by
    have hq := Lib.cells_of_tab (zs := Lib.pow10Tab) Tryd.underlying108 Tryd.underlying98 cU64 cA20 h4
    unfold Lib.TabIs
    rw [h3, ← hq]

  refine ⟨⟨⟨b_lo, o_lo, none⟩, ⟨b_ta, o_ta, none⟩, ⟨b_sh, o_sh, none⟩, ⟨b_li, o_li, none⟩, ⟨b_ma, o_ma, none⟩, ⟨b_fi, o_fi, none⟩⟩, ⟨hsz, hhd, c_lo, c_ta, c_sh, c_li, c_ma, c_fi, et_of hh, ⟨_, _, c_es⟩, ⟨_, _, c_er⟩, hpw, ?_, ?_⟩⟩
  · rintro a (rfl | rfl | rfl | rfl | rfl | rfl)
    · exact r_lo
    · exact r_ta
    · exact r_sh
    · exact r_li
    · exact r_ma
    · exact r_fi
  · exact List.nodup_cons.2 ⟨by simp only [List.mem_cons, List.not_mem_nil, or_false, not_or]; exact ⟨addr_ne x_lo x_ta (by decide), addr_ne x_lo x_sh (by decide), addr_ne x_lo x_li (by decide), addr_ne x_lo x_ma (by decide), addr_ne x_lo x_fi (by decide)⟩, List.nodup_cons.2 ⟨by simp only [List.mem_cons, List.not_mem_nil, or_false, not_or]; exact ⟨addr_ne x_ta x_sh (by decide), addr_ne x_ta x_li (by decide), addr_ne x_ta x_ma (by decide), addr_ne x_ta x_fi (by decide)⟩, List.nodup_cons.2 ⟨by simp only [List.mem_cons, List.not_mem_nil, or_false, not_or]; exact ⟨addr_ne x_sh x_li (by decide), addr_ne x_sh x_ma (by decide), addr_ne x_sh x_fi (by decide)⟩, List.nodup_cons.2 ⟨by simp only [List.mem_cons, List.not_mem_nil, or_false, not_or]; exact ⟨addr_ne x_li x_ma (by decide), addr_ne x_li x_fi (by decide)⟩, List.nodup_cons.2 ⟨by simp only [List.mem_cons, List.not_mem_nil, or_false]; exact addr_ne x_ma x_fi (by decide), by simp⟩⟩⟩⟩⟩
end Go.Proofs.YtgimkeklnpppjaaDoor.DCd
