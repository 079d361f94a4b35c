import Derived.Test.YtkppejaigodgiaaDoorApart
import Derived.Maps.AppendAt
namespace Go.Proofs.YtkppejaigodgiaaDoor
open Go.RowKit
/-- A slice of slices of bytes. -/
def Pcs (pv : Value) (ds : List (List Nat)) (w : World) : Prop :=
  (pv = .slice none 0 0 ∧ ds = []) ∨ ∃ p off cap, ∃ vs : List Value, pv = .slice (some ⟨p, off, none⟩) ds.length cap ∧ ds.length ≤ cap ∧ cap ≤ maxLen ∧ p < w.heap.size ∧ vs.length = ds.length ∧ (∀ j (h : j < vs.length), w.cell? ⟨p, off + j, none⟩ = some (vs[j]'h)) ∧ (∀ j (h1 : j < vs.length) (h2 : j < ds.length), Byl (vs[j]'h1) (ds[j]'h2) w)
theorem Pcs.shape {pv : Value} {ds : List (List Nat)} {w : World} (h : Pcs pv ds w) : ∃ o c, pv = .slice o ds.length c := by
  rcases h with ⟨h, h2⟩ | ⟨p, off, cap, vs, h, _⟩
  · exact ⟨none, 0, by rw [h, h2]; rfl⟩
  · exact ⟨_, _, h⟩
/-- The clone: none, or one that has taken the same. -/
def Cl (M : List Nat) (G : Nat) (av cv : Value) (w : World) : Prop := cv = .pointer none ∨ ∃ C, cv = .pointer (some ⟨C, 0, none⟩) ∧ G < C ∧ av.ownBlock ≠ some C ∧ Took roundN startN M C w
theorem appR_ext (w : World) (base n ty : Nat) (v sv : Value) (l e : List Nat) (hown : w.ownsRow base 5 1 v n (bs l).toList) (hs : Byl sv e w) (hb : n + e.length ≤ 140737488355328) (hbase : base ≤ w.heap.size) :
    ∃ v' w', (appR ty #[v, sv]).run Tryd.prog w = .ok v' w' ∧ w'.ownsRow base 5 1 v' (n + e.length) (bs (l ++ e)).toList ∧ w.grownBy w' v.ownBlock ∧ (∀ C, C < w.heap.size → v.ownBlock ≠ some C → v'.ownBlock ≠ some C) := by
  obtain ⟨i0, hi0, hz0, hz1, hz2⟩ := info_parts info5
  rcases hs with ⟨rfl, rfl⟩ | ⟨b, off, cap, rfl, h1, h2, h3, h4⟩
  · refine ⟨v, w, run_append_owned_none (P := Tryd.prog) (w := w) base 26 ty 5 i0 1 Tryd.underlying26 hi0 v n _ hown, ?_, grownBy_refl _ _, fun C _ h => h⟩
    rw [List.append_nil]; exact hown
  · obtain ⟨v', w', hr, ho, hg, _, h5⟩ := run_append_own_at (P := Tryd.prog) w base 26 ty 5 i0 _ 1 1 Tryd.underlying26 hi0 hz0 hz1 hz2 rfl (by omega) v n _ hown ⟨b, off, none⟩ e.length cap (bs e).toList (by simp [bs]) (fun j u hu => by
        have hj : j < e.length := by have := (List.getElem?_eq_some_iff.1 hu).1; simpa [bs] using this
        rw [Array.getElem?_toList, bs_get _ _ hj] at hu
        rw [← hu, Addr.add_mid]
        exact h4 j hj) (fun u hu => by
          have := bs_one e
          rw [Array.all_eq_true_iff_forall_mem] at this
          exact this u (by simpa using hu)) (by unfold maxLen; omega) (by omega) hbase
    refine ⟨v', w', hr, ?_, hg, fun C hC hne => ?_⟩
    · have : (bs (l ++ e)).toList = (bs l).toList ++ (bs e).toList := by simp [bs]
      rw [this]; exact ho
    · rcases h5 with h5 | h5
      · rw [h5]; exact hne
      · rw [h5]; intro h; have := Option.some.inj h; omega
theorem own_touch' {w w' : World} {g base n : Nat} {v : Value} {xs : List Value} (h : w.ownsRow base 5 1 v n xs) (ht : Touch g w w') (hne : v.ownBlock ≠ some g) : w'.ownsRow base 5 1 v n xs :=
  h.kept (row := some g) ⟨ht.os, ht.tape, ht.output, ht.size, fun k hk hr => ht.block k hk (fun e => hr (by rw [e]))⟩ (.inr hne)
theorem own_touch {w w' : World} {g base n : Nat} {v : Value} {xs : List Value} (h : w.ownsRow base 5 1 v n xs) (ht : Touch g w w') (hg : g < base) : w'.ownsRow base 5 1 v n xs :=
  own_touch' h ht (fun e => by have := (h.lt _ e).1; omega)
theorem own_below {w w' : World} {base n : Nat} {v : Value} {xs : List Value} (h : w.ownsRow base 5 1 v n xs) (hb : Below w.heap.size w w') : w'.ownsRow base 5 1 v n xs :=
  h.kept (row := none) ⟨hb.os, hb.tape, hb.output, hb.size, fun k hk _ => hb.block k hk⟩ (by
    cases hv : v.ownBlock with
    | none => exact .inl rfl
    | some k => exact .inr (by simp))
/-- What stays while the sums are asked for again. -/
structure Jn (M s : List Nat) (w : World) (R : Nat) (W : World) : Prop where
  tb : Tb W
  t : Took roundN startN M w.heap.size W
  r : W.heap[R]? = some (.cells (bs s) 28 (0, 0))
  b : Below w.heap.size w W
  ld : (loadR 28 (.pointer (some ⟨R, 0, none⟩))).run Tryd.prog W = .ok (.agg (bs s)) W
  eq : (Op.equalIn 10000 28 (.agg (bs s)) (.agg (bs s))).run Tryd.prog W = .ok true W
theorem Jn.below {M s : List Nat} {w : World} {R : Nat} {W W' : World} (h : Jn M s w R W) (hb : Below W.heap.size W W') (sl : s.length = 32) : Jn M s w R W' := by
  have hr : W'.heap[R]? = some (.cells (bs s) 28 (0, 0)) := (hb.block _ (Array.getElem?_eq_some_iff.1 h.r).1).trans h.r
  exact ⟨h.tb.below hb h.tb.sz, h.t.keep (hb.block _ h.t.lt), hr, h.b.trans (hb.mono h.b.size), run_loadR28 W' R s hr sl, nz W' s sl⟩
theorem Jn.drew {M s : List Nat} {w : World} {R : Nat} {W : World} (h : Jn M s w R W) (sl : s.length = 32 := by assumption) : Jn M s w R W.drew := h.below (Below.refl _ W).drew sl
theorem jn_sum {M : List Nat} {w : World} {R : Nat} {W : World} (hl : M.length ≤ 1152921504606846976) (hJ : Jn M (sha M) w R W) :
    Calls Tryd.prog 11 #[.pointer (some ⟨w.heap.size, 0, none⟩)] W fun e w' => e = .returned (.agg (bs (sha M))) ∧ Jn M (sha M) w R w' :=
  (sum_tb w.heap.size M hl W hJ.tb hJ.t).mono fun _ _ ⟨he, hb⟩ => ⟨he, hJ.below hb (sha_len _)⟩
theorem Jn.rg {M s : List Nat} {w : World} {R : Nat} {W : World} (h : Jn M s w R W) : W.rangeAt R 0 (bs s).toList := by
  intro j v hj
  rw [cell_of_row W _ _ _ _ _ h.r]
  simpa using hj
noncomputable def tail7 : Code := ((Tryd.f7.body.bind (fromR 19)).getD .skip)
/-- Ahead of the second Write. -/
structure En (M s : List Nat) (w : World) (R : Nat) (v5 : Value) (W : World) : Prop where
  tb : Tb W
  t : Took roundN startN [] w.heap.size W
  y : BylF (w.heap.size + 1) v5 M W
  r : W.heap[R]? = some (.cells (bs s) 28 (0, 0))
  b : Below w.heap.size w W
theorem En.drew {M s : List Nat} {w : World} {R : Nat} {v5 : Value} {W : World} (h : En M s w R v5 W) : En M s w R v5 W.drew := by
  have hb : Below W.heap.size W W.drew := (Below.refl _ W).drew
  exact ⟨h.tb.below hb h.tb.sz, h.t.keep (hb.block _ h.t.lt), h.y.below hb, (hb.block _ (Array.getElem?_eq_some_iff.1 h.r).1).trans h.r, h.b.trans (hb.mono h.b.size)⟩
theorem en_len {M s : List Nat} {w : World} {R : Nat} {v5 : Value} {W : World} (h : En M s w R v5 W) : Calls Tryd.prog 12 #[.pointer (some ⟨w.heap.size, 0, none⟩)] W fun e w' => e = .returned (.int .i64 0) ∧ w' = W := len_tb w.heap.size [] W h.t
theorem en_write {M s : List Nat} {w : World} {R : Nat} {v5 : Value} {W : World} (h : En M s w R v5 W) (hs : s.length = 32) (hR : w.heap.size < R) (hsw : 1 < w.heap.size) (hl : M.length ≤ 1048576) (hb : Byt M) : Calls Tryd.prog 10 #[.pointer (some ⟨w.heap.size, 0, none⟩), v5] W fun e w' => e = .returned (.int .i64 0) ∧ Jn M s w R w' := by
  have hbts : Bts w.heap.size v5 M W := by
    obtain ⟨h1 | ⟨b, off, cap, rfl, h2, h3, h5, h6⟩, hB⟩ := h.y
    · exact .inl h1
    · exact .inr ⟨b, off, cap, rfl, h2, h3, by have := hB b rfl; omega, h5, h6⟩
  refine (write_tb w.heap.size [] M hb (by simp; omega) v5 W hbts (by omega) h.tb h.t).mono fun e w' ⟨he, ht, hc⟩ => ⟨he, ?_⟩
  rw [List.nil_append] at ht
  have bel : Below w.heap.size w w' := below_touch h.b hc (Nat.le_refl _) h.b.size
  have hr : w'.heap[R]? = some (.cells (bs s) 28 (0, 0)) := (hc.block _ (Array.getElem?_eq_some_iff.1 h.r).1 (by omega)).trans h.r
  exact ⟨h.tb.touch hc (by omega), ht, hr, bel, run_loadR28 w' R s hr hs, nz w' s hs⟩
theorem jn_of {M s : List Nat} {w : World} {R : Nat} {W : World} (hJ : Jn M s w R W) (sl : s.length = 32) : Calls Tryd.prog 15 #[.slice none 0 0] W fun e w' => e = .returned (.agg (bs (sha []))) ∧ Jn M s w R w' :=
  (of_tb [] _ (by decide) (fun x hx => by cases hx) W hJ.tb (.inl ⟨rfl, rfl⟩)).mono fun _ _ ⟨he, hb⟩ => ⟨he, hJ.below hb sl⟩
theorem jn_hex {M s : List Nat} {w : World} {R : Nat} {W : World} (hJ : Jn M s w R W) (sl : s.length = 32) : Calls Tryd.prog 14 #[.agg (bs (sha []))] W fun e w' => e = .returned (.string ⟨#[101, 51, 98, 48, 99, 52, 52, 50, 57, 56, 102, 99, 49, 99, 49, 52, 57, 97, 102, 98, 102, 52, 99, 56, 57, 57, 54, 102, 98, 57, 50, 52, 50, 55, 97, 101, 52, 49, 101, 52, 54, 52, 57, 98, 57, 51, 52, 99, 97, 52, 57, 53, 57, 57, 49, 98, 55, 56, 53, 50, 98, 56, 53, 53]⟩) ∧ Jn M s w R w' :=
  (hex_nil W).mono fun _ _ ⟨he, hb⟩ => ⟨he, hJ.below hb sl⟩
attribute [local go_sem ↓] to28s to28l toApp
set_option maxRecDepth 100000 in
set_option maxHeartbeats 6400000 in
theorem pieces_end (M s : List Nat) (hs : s = sha M) (hl : M.length ≤ 1048576) (hb : Byt M) (R : Nat) (v5 v0 v1 v2 v3 v4 v7 v8 v10 v11 v12 v13 v14 v15 v16 v17 v18 v19 v20 v21 v22 v23 v24 v25 v26 v27 v28 v29 v30 v31 v32 v33 v34 v35 v36 v37 v38 v39 v40 v41 v42 v43 v44 v45 v46 v47 v48 v49 v50 v51 v52 v53 v54 v55 v56 v57 v58 v59 v60 v61 v62 v63 v64 v65 v66 v67 v68 v69 v70 v71 v72 v73 v74 v75 v76 v77 v78 v79 v80 v81 v82 v83 v84 v85 v86 v87 v88 v89 v90 v91 v92 v93 v94 v95 v96 v97 v98 v99 v100 v101 v102 v103 v104 v105 v106 v107 v108 v109 v110 v111 v112 v113 v114 v115 v116 v117 v118 : Value) (w W : World) (hR : w.heap.size < R) (ht : Tb w) (hT : Took roundN startN M w.heap.size W) (hy : BylF (w.heap.size + 1) v5 M W) (hr : W.heap[R]? = some (.cells (bs s) 28 (0, 0))) (bel : Below w.heap.size w W) :
    Code.wp Tryd.prog tail7 (bodyPost Tryd.prog Tryd.f7 (fun e w' => e = .returned (.bool true) ∧ Below w.heap.size w w'))
      ⟨#[v0, v1, v2, v3, v4, v5, .pointer (some ⟨w.heap.size, 0, none⟩), v7, v8, .pointer (some ⟨R, 0, none⟩), v10, v11, v12, v13, v14, v15, v16, v17, v18, v19, v20, v21, v22, v23, v24, v25, v26, v27, v28, v29, v30, v31, v32, v33, v34, v35, v36, v37, v38, v39, v40, v41, v42, v43, v44, v45, v46, v47, v48, v49, v50, v51, v52, v53, v54, v55, v56, v57, v58, v59, v60, v61, v62, v63, v64, v65, v66, v67, v68, v69, v70, v71, v72, v73, v74, v75, v76, v77, v78, v79, v80, v81, v82, v83, v84, v85, v86, v87, v88, v89, v90, v91, v92, v93, v94, v95, v96, v97, v98, v99, v100, v101, v102, v103, v104, v105, v106, v107, v108, v109, v110, v111, v112, v113, v114, v115, v116, v117, v118], []⟩ W := by
  have hsw := ht.sz
  have sl : s.length = 32 := by rw [hs]; exact sha_len _
  have JS : Hid (∀ W, Jn M s w R W → Calls Tryd.prog 11 #[.pointer (some ⟨w.heap.size, 0, none⟩)] W fun e w' => e = .returned (.agg (bs s)) ∧ Jn M s w R w') := by
    rw [hs]
    exact fun W hJ => jn_sum (by omega) hJ
  clear hs
  have CE : Hid (Calls Tryd.prog 9 #[.pointer (some ⟨w.heap.size, 0, none⟩)] W fun e w' => e = .returned (.tuple #[]) ∧ En M s w R v5 w') := (reset_tb w.heap.size M W hT).mono fun e w' ⟨he, h0, hc⟩ => by
    have b1 : Below w.heap.size w w' := below_touch bel hc (Nat.le_refl _) bel.size
    exact ⟨he, ht.below b1 hsw, h0, hy.touch hc (by omega), (hc.block _ (Array.getElem?_eq_some_iff.1 hr).1 (by omega)).trans hr, b1⟩
  clear hT hy hr bel
  have L12 : Hid (∀ W, En M s w R v5 W → Calls Tryd.prog 12 #[.pointer (some ⟨w.heap.size, 0, none⟩)] W fun e w' => e = .returned (.int .i64 0) ∧ w' = W) := fun W h => en_len h
  have L10 : Hid (∀ W, En M s w R v5 W → Calls Tryd.prog 10 #[.pointer (some ⟨w.heap.size, 0, none⟩), v5] W fun e w' => e = .returned (.int .i64 0) ∧ Jn M s w R w') := fun W h => en_write h sl hR hsw hl hb
  have L15 : Hid (∀ W, Jn M s w R W → Calls Tryd.prog 15 #[.slice none 0 0] W fun e w' => e = .returned (.agg (bs (sha []))) ∧ Jn M s w R w') := fun W h => jn_of h sl
  have L14 : Hid (∀ W, Jn M s w R W → Calls Tryd.prog 14 #[.agg (bs (sha []))] W fun e w' => e = .returned (.string ⟨#[101, 51, 98, 48, 99, 52, 52, 50, 57, 56, 102, 99, 49, 99, 49, 52, 57, 97, 102, 98, 102, 52, 99, 56, 57, 57, 54, 102, 98, 57, 50, 52, 50, 55, 97, 101, 52, 49, 101, 52, 54, 52, 57, 98, 57, 51, 52, 99, 97, 52, 57, 53, 57, 57, 49, 98, 55, 56, 53, 50, 98, 56, 53, 53]⟩) ∧ Jn M s w R w') := fun W h => jn_hex h sl
  conv => arg 2; whnf
  go_wp2_with fail
  refine CE.out.mono ?_
  rintro e w1 ⟨rfl, hE⟩
  have hEd := hE.drew
  have hr1 := hE.r
  have ldE := run_loadR28 w1.drew R s hEd.r sl
  clear hr1 CE
  go_wp2_with fail
  first
    | go_region_with (first
        | (go_at_call 12; refine (L12.out _ (by assumption)).mono ?_; rintro e w' ⟨rfl, rfl⟩)
        | (go_at_call 10; refine (L10.out _ (by assumption)).mono ?_; rintro e w' ⟨rfl, hJ'⟩; have ld' := hJ'.ld; have eq' := hJ'.eq)
        | (go_at_call 11; refine (JS.out _ (by assumption)).mono ?_; rintro e w' ⟨rfl, hJ'⟩; have ld' := hJ'.ld; have eq' := hJ'.eq)
        | (go_at_call 15; refine (L15.out _ (by assumption)).mono ?_; rintro e w' ⟨rfl, hJ'⟩; have ld' := hJ'.ld; have eq' := hJ'.eq)
        | (go_at_call 14; refine (L14.out _ (by assumption)).mono ?_; rintro e w' ⟨rfl, hJ'⟩; have ld' := hJ'.ld; have eq' := hJ'.eq))
  all_goals
    go_wp2_with fail
    go_ret
    refine ⟨?_, hJ'.b⟩
    show Ending.returned (Value.bool _) = Ending.returned (Value.bool true)
    kernel_rfl
/-- What stays while the sums are asked for: a clone's too. -/
structure Kn (M s : List Nat) (w : World) (R : Nat) (v5 : Value) (cs : List Nat) (W : World) : Prop where
  j : Jn M s w R W
  y : BylF (w.heap.size + 1) v5 M W
  c : ∀ C ∈ cs, Took roundN startN M C W
theorem Kn.below {M s : List Nat} {w : World} {R : Nat} {v5 : Value} {cs : List Nat} {W W' : World} (h : Kn M s w R v5 cs W) (hb : Below W.heap.size W W') (sl : s.length = 32) : Kn M s w R v5 cs W' :=
  ⟨h.j.below hb sl, h.y.below hb, fun C hC => (h.c C hC).keep (hb.block _ (h.c C hC).lt)⟩
theorem kn_sum {M s : List Nat} {w : World} {R : Nat} {v5 : Value} {cs : List Nat} {W : World} (hs : s = sha M) (hl : M.length ≤ 1152921504606846976) (h : Kn M s w R v5 cs W) :
    Calls Tryd.prog 11 #[.pointer (some ⟨w.heap.size, 0, none⟩)] W fun e w' => e = .returned (.agg (bs s)) ∧ Kn M s w R v5 cs w' := by
  have sl : s.length = 32 := by rw [hs]; exact sha_len _
  refine (sum_tb w.heap.size M hl W h.j.tb h.j.t).mono fun e w' ⟨he, hb⟩ => ⟨?_, h.below hb sl⟩
  rw [he, hs]
theorem kn_sumC {M s : List Nat} {w : World} {R : Nat} {v5 : Value} {C : Nat} {W : World} (hs : s = sha M) (hl : M.length ≤ 1152921504606846976) (h : Kn M s w R v5 [C] W) :
    Calls Tryd.prog 11 #[.pointer (some ⟨C, 0, none⟩)] W fun e w' => e = .returned (.agg (bs s)) ∧ Kn M s w R v5 [C] w' := by
  have sl : s.length = 32 := by rw [hs]; exact sha_len _
  refine (sum_tb C M hl W h.j.tb (h.c C (by simp))).mono fun e w' ⟨he, hb⟩ => ⟨?_, h.below hb sl⟩
  rw [he, hs]
theorem kn_len {M s : List Nat} {w : World} {R : Nat} {v5 : Value} {C : Nat} {W : World} (h : Kn M s w R v5 [C] W) :
    Calls Tryd.prog 12 #[.pointer (some ⟨C, 0, none⟩)] W fun e w' => e = .returned (.int .i64 (M.length : Int)) ∧ w' = W := len_tb C M W (h.c C (by simp))
end Go.Proofs.YtkppejaigodgiaaDoor
