/- SieveCuts: overlaps by pieces, and a piece more for the rewriter. -/
import Derived.Test.YtceaklefdahfkabCt1
import Derived.Test.YtceaklefdahfkabRd2
import Derived.Test.YtceaklefdahfkabRw7
namespace Go.Proofs.Ytceaklefdahfkab
open Go.RowKit
def dcA : Option Int → Int × Bool
  | some x => (x, true)
  | none => (0, false)
/-- What overlap answers, place by place. -/
theorem ovP_dc (f : Int) (m : Nat) (H : List (Int × Int)) : ovP f m H = dcA (dcP (m : Int) (f - (m : Int)) H) := by
  cases H with
  | nil => simp [dcP, ovP, ov, ovR, dcA]
  | cons x r =>
    have h0 : ((x :: r).getD 0 (0, 0)) = x := rfl
    have e : ov (x :: r) (m : Int) = ovR (x :: r) (m : Int) r.length 1 := by unfold ov; simp
    have hd := dcP_ov m r (x :: r) 1 x.1 (by omega) rfl rfl
    rw [dcP]
    by_cases hc : x.1 < f
    · have hv : ovP f m (x :: r) = (x.1, true) := by unfold ovP; rw [h0, if_pos ⟨by simp, hc⟩]
      rw [hv, if_pos (by omega)]
      rfl
    · by_cases hq : 0 < ovR (x :: r) (m : Int) r.length 1
      · have hv : ovP f m (x :: r) = (((x :: r).getD (ovR (x :: r) (m : Int) r.length 1).toNat (0, 0)).1, true) := by unfold ovP; rw [h0, if_neg (fun h => hc h.2), e, if_pos hq]
        rw [hv, if_neg (by omega), hd, if_pos hq]
        rfl
      · have hv : ovP f m (x :: r) = (0, false) := by unfold ovP; rw [h0, if_neg (fun h => hc h.2), e, if_neg hq]
        rw [hv, if_neg (by omega), hd, if_neg hq]
        rfl
theorem dcP_app (m : Nat) : ∀ (A B : List (Int × Int)) (f : Int), dcP (m : Int) (f - (m : Int)) (A ++ B) = (dcP (m : Int) (f - (m : Int)) A).or (dcP (m : Int) (frN f m A - (m : Int)) B)
  | [], B, f => by simp [dcP, frN]
  | x :: A, B, f => by
    have hf : frN f m (x :: A) = frN (x.1 + (m : Int)) m A := rfl
    have hx : x.1 + (m : Int) - (m : Int) = x.1 := by omega
    have := dcP_app m A B (x.1 + (m : Int))
    rw [hx] at this
    rw [List.cons_append, dcP, dcP, hf]
    by_cases hc : x.1 - (f - (m : Int)) < (m : Int)
    · rw [if_pos hc, if_pos hc]; rfl
    · rw [if_neg hc, if_neg hc, this]
theorem ovP_app (f : Int) (m : Nat) (A B : List (Int × Int)) : ovP f m (A ++ B) = if (ovP f m A).2 = true then ovP f m A else ovP (frN f m A) m B := by
  rw [ovP_dc, ovP_dc, ovP_dc, dcP_app]
  cases dcP (m : Int) (f - (m : Int)) A with
  | none => simp [dcA]
  | some x => simp [dcA]
theorem frN_app (f : Int) (m : Nat) (A B : List (Int × Int)) : frN f m (A ++ B) = frN (frN f m A) m B := by simp [frN]
/-- The rewriter that has taken y. -/
def RwI (l : List ByteArray) (m : Nat) (ns : List Nat) (T : List ByteArray) (gr gt : Nat) (tv : Value) (y : List Nat) (w : World) : Prop :=
  ∃ s K, K.length = 63 ∧ Rwt gr gt s y.length (hld2 (l.map tl) m y) tv (frN 0 m (hts (l.map tl) m y)) K w ∧ At ((wdS l ns).map tl) m s y ∧ K.take (hld2 (l.map tl) m y) = (rwd (l.map tl) m T y).drop (y.length - hld2 (l.map tl) m y)
/-- What Feed answers, by the bytes taken. -/
def RfY (l : List ByteArray) (m : Nat) (ns : List Nat) (T : List ByteArray) (gr gt : Nat) (tv : Value) (y p : List Nat) (B : Nat) (e : Ending) (w' : World) : Prop :=
  ((ovP 0 m (hts (l.map tl) m (y ++ p))).2 = true ∧ e = .returned (.tuple #[.slice none 0 0, .int .i64 52, .int .i64 (ovP 0 m (hts (l.map tl) m (y ++ p))).1]) ∧ Rwd gr y.length (hld2 (l.map tl) m y) w') ∨
  ((ovP 0 m (hts (l.map tl) m (y ++ p))).2 = false ∧ ∃ o k X, e = .returned (.tuple #[.slice o k k, .int .i64 0, .int .i64 0]) ∧ Si .u8 (.slice o k k) X w' ∧ Wb B o k w' ∧
    (rwd (l.map tl) m T y).take (y.length - hld2 (l.map tl) m y) ++ X = (rwd (l.map tl) m T (y ++ p)).take ((y ++ p).length - hld2 (l.map tl) m (y ++ p)) ∧ RwI l m ns T gr gt tv (y ++ p) w')
theorem hin_rg {st N m nT : Nat} (h1 : st ≤ 1125899906842624) (h2 : N ≤ 2147483648) (h3 : nT ≤ 1073741824) {H : List (Int × Int)} (h : ∀ x ∈ H, Hin st N m nT x) : Rg H := fun j => by
  rcases Nat.lt_or_ge j H.length with hj | hj
  · have e : H.getD j (0, 0) = H[j] := by simp [List.getD, hj]
    obtain ⟨i, k, a1, a2, a3, a4⟩ := h _ (List.getElem_mem hj)
    rw [e, a1]
    unfold I64
    simp only
    omega
  · have e : H.getD j (0, 0) = (0, 0) := by simp [List.getD, hj]
    rw [e]
    unfold I64
    simp
theorem tk_in (A P : List Nat) (a k : Nat) (hA : A.length = a) (h : a ≤ k) : (A ++ P).take k = A ++ P.take (k - a) ∧ (A ++ P).drop k = P.drop (k - a) := by
  refine ⟨?_, ?_⟩
  · rw [List.take_append, List.take_of_length_le (by omega), hA]
  · rw [List.drop_append, List.drop_of_length_le (by omega), List.nil_append, hA]
theorem rfeed_y (l : List ByteArray) (m : Nat) (hp : Pt l m) (ns : List Nat) (hn : NewOk l ns) (T : List ByteArray) (hT : ∀ s ∈ T, s.size = m) (hTl : T.length = l.length) (gr gt : Nat) (tv : Value) (y p : List Nat) (hy : y.length ≤ 1125899906842624) (hpb : Byt p) (hpl : p.length ≤ 1073741824) (hov : (ovP 0 m (hts (l.map tl) m y)).2 = false) (pv : Value) (w : World)
    (hR : RwI l m ns T gr gt tv y w) (ht : TabK gr gt (ftT ((wdS l ns).map tl) ns m) w) (hpv : Si .u8 pv p w) (hpg : pv.ownBlock ≠ some gr) (hTv : St tv T w) (hTg : tv.ownBlock ≠ some gr) :
    Calls Try.prog 22 #[.pointer (some ⟨gr, 0, none⟩), pv] w fun e w' => Bur gr w w' ∧ RfY l m ns T gr gt tv y p w.heap.size e w' := by
  obtain ⟨s, K, hK, hR, hat, hKt⟩ := hR
  have hw := hp.wd hn
  have hln := hp.ln
  obtain ⟨n1, n2⟩ := hp.nums hn
  have hl := wdS_len hn.1
  have hll : ((wdS l ns).map tl).length = l.length := by rw [List.length_map]; exact hl
  have hb : ∀ u ∈ (wdS l ns).map tl, Byt u := fun u hu => by obtain ⟨s, _, rfl⟩ := List.mem_map.1 hu; exact tl_byt s
  have hv : ns.length = ((wdS l ns).map tl).length := by rw [hn.1.len, hll]
  have hf := hw.fnd ns (by omega) hb hv hp.m1 p y s hpb hat.1 hat.2
  rw [spc_last hw (l.map tl) n1 n2 y p] at hf
  have hA := hw.rnA ns (by omega) hb hv hp.m1 p y s hpb hat
  have hD := hw.dep ns (by omega) hb hv hp.m1 _ _ hA
  rw [hw.hld (l.map tl) n1 (y ++ p)] at hD
  have hD2 : (ftT ((wdS l ns).map tl) ns m).depths.getD (rn (ftT ((wdS l ns).map tl) ns m) s p) 0 = hld2 (l.map tl) m (y ++ p) := hD
  have hLl : T.length = (l.map tl).length := by rw [List.length_map, hTl]
  have hle := hld2_lm (l.map tl) m y
  have hle2 := hld2_lm (l.map tl) m (y ++ p)
  have happ := hld2_app (l.map tl) m y p
  have hm1 := hp.m1
  have hm0 := hp.m0
  have hin := hit2_in (l.map tl) m hm0 y p T.length hLl
  have hrg : Rg (hit2 (l.map tl) m y p) := hin_rg (by omega) (by omega) (by omega) hin
  have hrl := rwd_len hT hLl y
  have hpl2 := rwd_app (by omega) hT hLl y p
  have hwd : (ftT ((wdS l ns).map tl) ns m).width = m := by
    show (lbS _ _).width = _
    rw [(lbS_same _ _).2.2.1]
    rfl
  have := rfeed_any gr gt s y.length (hld2 (l.map tl) m y) tv _ K hK T m (hit2 (l.map tl) m y p) (fun _ => by omega) hT _ (hw.wk ns (by omega) hb hv hp.m1) hwd _ (hw.gd ns (by omega) hb hv hp.m1) hat.1 hy (by omega) (by omega) p hpb hpl pv w hR ht hpv hpg hTv hTg hf hrg hin (by rw [hD2]; omega) (by rw [hD2]; omega)
  refine this.mono fun e w' ⟨q1, q2⟩ => ⟨q1, ?_⟩
  have hoA : ovP 0 m (hts (l.map tl) m (y ++ p)) = ovP (frN 0 m (hts (l.map tl) m y)) m (hit2 (l.map tl) m y p) := by
    rw [hts_app _ m (by omega), ovP_app, hov, if_neg (by simp)]
  have hfA : frN 0 m (hts (l.map tl) m (y ++ p)) = frN (frN 0 m (hts (l.map tl) m y)) m (hit2 (l.map tl) m y p) := by
    rw [hts_app _ m (by omega), frN_app]
  rw [hD2, hKt] at q2
  have hdl : ((rwd (l.map tl) m T y).drop (y.length - hld2 (l.map tl) m y) ++ p).length = hld2 (l.map tl) m y + p.length := by rw [List.length_append, List.length_drop, hrl]; omega
  have hPl : (puts T (y.length - hld2 (l.map tl) m y) ((rwd (l.map tl) m T y).drop (y.length - hld2 (l.map tl) m y) ++ p) (hit2 (l.map tl) m y p)).length = hld2 (l.map tl) m y + p.length := by
    rw [puts_len (m := m) hT _ _ (by rw [hdl]; exact hit2_in (l.map tl) m (by omega) y p T.length hLl), hdl]
  generalize hP : puts T (y.length - hld2 (l.map tl) m y) ((rwd (l.map tl) m T y).drop (y.length - hld2 (l.map tl) m y) ++ p) (hit2 (l.map tl) m y p) = P at *
  have hta : ((rwd (l.map tl) m T y).take (y.length - hld2 (l.map tl) m y)).length = y.length - hld2 (l.map tl) m y := by rw [List.length_take, hrl]; omega
  have hal : (y ++ p).length = y.length + p.length := List.length_append
  rcases q2 with ⟨a1, a2, a3⟩ | ⟨a1, o, a2, a3, a4, a5⟩
  · exact .inl ⟨by rw [hoA]; exact a1, by rw [hoA]; exact a2, a3⟩
  · refine .inr ⟨by rw [hoA]; exact a1, o, _, _, a2, a3, a4, ?_, _, P.drop (hld2 (l.map tl) m y + p.length - hld2 (l.map tl) m (y ++ p)) ++ K.drop (hld2 (l.map tl) m (y ++ p)), ?_, ?_, hA, ?_⟩
    · rw [hpl2, (tk_in _ P _ _ hta (by omega)).1]
      congr 2
      omega
    · rw [List.length_append, List.length_drop, List.length_drop, hPl, hK]; omega
    · rw [hfA, hal]; exact a5
    · have hd : (P.drop (hld2 (l.map tl) m y + p.length - hld2 (l.map tl) m (y ++ p))).length = hld2 (l.map tl) m (y ++ p) := by rw [List.length_drop, hPl]; omega
      rw [List.take_append_of_le_length (by omega), List.take_of_length_le (by omega), hpl2, (tk_in _ P _ _ hta (by omega)).2]
      congr 1
      omega
end Go.Proofs.Ytceaklefdahfkab
