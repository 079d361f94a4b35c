/- The document's Hear: mathematics of pieces. -/
import Derived.Test.YtffghlbgbfhfdaaGreatDoorLnK
import Derived.Test.YtffghlbgbfhfdaaGreatDoorPbJ
import Derived.Test.YtffghlbgbfhfdaaGreatDoorLhA
namespace Go.Proofs.YtffghlbgbfhfdaaGreatDoor
open Go.RowKit Go.Shelf Go.Sort
theorem pcsA_no : ∀ (q p r : List UInt8), (58 : UInt8) ∉ q → pcsA p (q ++ r) = pcsA (p ++ q) r
  | [], p, r, _ => by simp
  | x :: q, p, r, h => by
    have h1 : x ≠ 58 := fun e => h (by simp [e])
    have h2 : (58 : UInt8) ∉ q := fun e => h (by simp [e])
    rw [List.cons_append, pcsA, if_neg h1, pcsA_no q (p ++ [x]) r h2]
    simp
theorem pcsA_fl : ∀ (ps : List (List UInt8)) (p : List UInt8), (∀ x ∈ ps, (58 : UInt8) ∉ x) → pcsA p (fl ps) = p :: ps
  | [], p, _ => by simp [fl, pcsA]
  | q :: ps, p, h => by
    rw [fl_cons, pcsA, if_pos rfl, pcsA_no q [] _ (h q (by simp)), List.nil_append, pcsA_fl ps q (fun x hx => h x (by simp [hx]))]
theorem pcs_of (p : List UInt8) (ps : List (List UInt8)) (hp : (58 : UInt8) ∉ p) (h : ∀ x ∈ ps, (58 : UInt8) ∉ x) : pcsA [] (p ++ fl ps) = p :: ps := by
  rw [pcsA_no p [] _ hp, List.nil_append, pcsA_fl ps p h]
def shaW : List UInt8 := [115, 104, 97, 50, 53, 54]
def storeW : List UInt8 := [47, 103, 114, 97, 102, 116, 47, 115, 116, 111, 114, 101]
def tail4 (f : Fg) : List (List UInt8) := [shaW, bl (str (hexL f.sm)), storeW, bl f.nm]
theorem c8_bl : bl c8 = 58 :: (shaW ++ [58]) := by decide
theorem c13_bl : bl c13 = 58 :: storeW := by decide
theorem say_fl (f : Fg) : bl (sayT f) = bl (kwV f.k) ++ fl (((dd (srt f.L)).map prT ++ tlP f) ++ tail4 f) := by
  rw [say_bl, head_bl, fl_app ((dd (srt f.L)).map prT ++ tlP f), c8_bl, c13_bl]
  have : fl (tail4 f) = 58 :: (shaW ++ (58 :: (bl (str (hexL f.sm)) ++ (58 :: (storeW ++ (58 :: bl f.nm)))))) := by
    simp [tail4, fl]
  rw [this]
  simp only [List.append_assoc, List.cons_append, List.nil_append]
theorem hex_nc (l : List Nat) (hb : Byt l) : (58 : UInt8) ∉ bl (str (hexL l)) := nc_of fun j hj => by
  rw [str_size] at hj
  rw [byt_str _ (hexL_byt l hb) j hj]
  have hm : (hexL l).getD j 0 ∈ hexL l := by
    rw [List.getD_eq_getElem?_getD, List.getElem?_eq_getElem hj]
    exact List.getElem_mem hj
  have hk := Hx.hexL_known l hb _ hm
  intro e
  rw [e] at hk
  revert hk
  decide
/-- The pieces of what a finger says. -/
theorem pcs_say {f : Fg} (ok : Ok f) : pcsA [] (bl (sayT f)) = bl (kwV f.k) :: (((dd (srt f.L)).map prT ++ tlP f) ++ tail4 f) := by
  rw [say_fl]
  refine pcs_of _ _ (kwV_nc _) ?_
  intro x hx
  rcases List.mem_append.1 hx with hx | hx
  · exact tlP_nc ok x hx
  · simp only [tail4, List.mem_cons, List.not_mem_nil, or_false] at hx
    rcases hx with rfl | rfl | rfl | rfl
    · decide
    · exact hex_nc _ f.hb
    · decide
    · exact okN_nc ok.nm
/-- The last four. -/
theorem split4 (P : List (List UInt8)) (h : 5 ≤ P.length) : ∃ p0 mid a hx c nm, P = p0 :: (mid ++ [a, hx, c, nm]) := by
  obtain ⟨p0, Q, rfl⟩ : ∃ p0 Q, P = p0 :: Q := by
    cases P with
    | nil => simp at h
    | cons p Q => exact ⟨p, Q, rfl⟩
  have hq : 4 ≤ Q.length := by simp at h; omega
  have e := List.take_append_drop (Q.length - 4) Q
  have hd : (Q.drop (Q.length - 4)).length = 4 := by rw [List.length_drop]; omega
  match hD : Q.drop (Q.length - 4), hd with
  | [a, b, c, d], _ => exact ⟨p0, Q.take (Q.length - 4), a, b, c, d, by rw [← hD, e]⟩
theorem app4_inj {A B : List (List UInt8)} {a b c d a' b' c' d' : List UInt8} (h : A ++ [a, b, c, d] = B ++ [a', b', c', d']) : A = B ∧ b = b' ∧ d = d' := by
  obtain ⟨h1, h2⟩ := List.append_inj' h rfl
  simp only [List.cons.injEq, and_true] at h2
  exact ⟨h1, h2.2.1, h2.2.2.2⟩
/-- What its pieces are if a finger says it. -/
structure Sd (F : Fg) (p0 : List UInt8) (mid : List (List UInt8)) (hx nm : List UInt8) : Prop where
  kw : p0 = bl (kwV F.k)
  md : mid = (dd (srt F.L)).map prT ++ tlP F
  hx : hx = bl (str (hexL F.sm))
  nm : nm = bl F.nm
theorem sd_of {F : Fg} (ok : Ok F) {s : ByteArray} (hs : sayT F = s) {p0 : List UInt8} {mid : List (List UInt8)} {a h c nm : List UInt8} (hP : pcsA [] (bl s) = p0 :: (mid ++ [a, h, c, nm])) : Sd F p0 mid h nm := by
  rw [← hs, pcs_say ok] at hP
  have h1 := (List.cons.inj hP).1
  have h2 := app4_inj (List.cons.inj hP).2
  exact ⟨h1.symm, h2.1.symm, h2.2.1.symm, h2.2.2.symm⟩
theorem sd_short {F : Fg} (ok : Ok F) {s : ByteArray} (hs : sayT F = s) (h : (pcsA [] (bl s)).length < 5) : False := by
  rw [← hs, pcs_say ok] at h
  simp [tail4] at h
  omega
/-- Parse of a label's text. -/
theorem hdV_none (s : ByteArray) (h : ∀ k, k < 13 → byt s k = byt store k) (hz : 13 ≤ s.size) : ∀ f i, i + f = 13 → hdV s f i = none
  | 0, i, _ => rfl
  | f + 1, i, e => by
    rw [hdV, if_neg (by omega), if_neg (by simpa using h i (by omega)), hdV_none s h hz f (i + 1) (by omega)]
theorem ofL_prT (x : Lb) : ofL (prT x) = store ++ baseS x.h x.s := rfl
theorem paV_print (x : Lb) (hb : Byt x.h) (hn : okN x.s = 0) : paV (store ++ baseS x.h x.s) = (lab x.h x.s, 0, 0) := by
  have hz := okN_size x.s hn
  have hbs := baseS_size x.h x.s x.hl
  have hT : (store ++ baseS x.h x.s).size = 13 + (33 + x.s.size) := by rw [app_size, hbs]; rfl
  have hE : (store ++ baseS x.h x.s).extract 13 (store ++ baseS x.h x.s).size = baseS x.h x.s := ext_right store _ 13 rfl
  obtain ⟨u1, u2, u3⟩ := un_text x.h hb x.hl
  have hpb : pbV (baseS x.h x.s) = (lab x.h x.s, 0, 0) := by
    have hm : (str (b32L x.h) ++ minus).size = 33 := by rw [app_size, u3]; rfl
    have hd : dgS (baseS x.h x.s) = str (b32L x.h) := by
      unfold dgS
      rw [hbs, Nat.min_eq_right (by omega)]
      unfold baseS
      rw [ByteArray.append_assoc]
      exact ext_left _ _ 32 u3
    have hr : (baseS x.h x.s).extract 33 (baseS x.h x.s).size = x.s := by
      unfold baseS
      exact ext_right _ _ 33 hm
    have h32 : byt (baseS x.h x.s) 32 = 45 := by
      unfold baseS
      rw [byt_app _ _ 32 (by omega)]
      have h1 : 32 < (str (b32L x.h) ++ minus).size := by omega
      have e1 : byt (str (b32L x.h) ++ minus) 32 = byt minus 0 := by
        rw [← byt_at _ 32 h1, ← byt_at minus 0 (by decide)]
        rw [ByteArray.getElem_append_right (by omega)]
        simp only [u3]
      rw [e1]
      rfl
    unfold pbV
    rw [if_neg (by omega), hd, u1, if_neg (by decide), if_neg (by omega), if_neg (by omega), hr]
    have : (checkN x.s).1 = 0 := hn
    rw [if_neg (by omega), u2]
  unfold paV
  rw [if_neg (by omega), hdV_none _ (fun k hk => byt_app store _ k hk) (by omega) 13 0 rfl]
  simp only [hE, hpb]
  rw [if_neg (by decide)]
/-- A number's digits read. -/
def ixV (l : List UInt8) : Int := l.foldl (fun a b => 10 * a + (b.toNat : Int) - 48) 0
theorem ixV_dec' : ∀ i : Fin 64, ixV (Lib.decDigits i.val) = (i.val : Int) ∧ (Lib.decDigits i.val).length ≤ 2 := by decide +kernel
theorem ixV_itoa (i : Nat) (h : i < 64) : ixV (bl (itoaT i)) = (i : Int) ∧ (bl (itoaT i)).length ≤ 2 := by
  rw [itoaT_bl]
  exact ixV_dec' ⟨i, h⟩
/-- Two fingers of one text: what is asked of a guess. -/
structure Sm (f F : Fg) : Prop where
  k : f.k = F.k
  L : f.L = dd (srt F.L)
  self : f.self = F.self
  out : f.out = F.out
  ix : f.ix = F.ix
  sm : f.sm = F.sm
  nm : f.nm = F.nm
theorem Sm.reS {f F : Fg} (h : Sm f F) : f = reS F f.v := by
  obtain ⟨h1, h2, h3, h4, h5, h6, h7⟩ := h
  obtain ⟨k, v, L, self, out, ix, sm, nm, _, _, _, _, _, _⟩ := f
  obtain ⟨k', v', L', self', out', ix', sm', nm', _, _, _, _, _, _⟩ := F
  simp only at h1 h2 h3 h4 h5 h6 h7
  subst h1 h2 h3 h4 h5 h6 h7
  rfl
theorem sd_sm {F : Fg} {p0 : List UInt8} {mid : List (List UInt8)} {hx nm : List UInt8} (h : Sd F p0 mid hx nm) : Hx.hexE (Hx.tl (ofL hx)) = (0, 0) ∧ Hx.hexV (Hx.tl (ofL hx)) = F.sm := by
  rw [h.hx]
  show Hx.hexE (Hx.tl (str (hexL F.sm))) = _ ∧ Hx.hexV (Hx.tl (str (hexL F.sm))) = _
  rw [tl_str _ (hexL_byt _ F.hb)]
  exact ⟨Hx.hexE_back _ F.hb, Hx.hexV_hexL _ F.hb⟩
theorem sd_nm {F : Fg} {p0 : List UInt8} {mid : List (List UInt8)} {hx nm : List UInt8} (h : Sd F p0 mid hx nm) : ofL nm = F.nm := by rw [h.nm]; rfl
end Go.Proofs.YtffghlbgbfhfdaaGreatDoor
