/- Several texts in one: GpS, GpW, GpC, GpE. -/
import Derived.Test.YtibhjkmbbfgnpaaJtA
import Derived.Sort.OwnSortedInts
import Derived.Deep.QuietTactic
import Derived.BigQuiet
import Derived.Shelf.SlSortCmp.Kit1
/- Graphs in groups: each group in order. -/
namespace Go.Proofs.Ytibhjkmbbfgnpaa
open Go.RowKit GM Gl
set_option maxRecDepth 20000
section
variable {B n i m : Nat} {pv v : Value} {Ps : List (List Nat)} {vs : List Value} {w w' : World} {p q : List Nat}
/-- One of the lists is written over. -/
theorem Pl.sorti (h : Pl B pv n Ps vs w) (hv : vs[i]? = some v) (hp : Ps[i]? = some p) (ho : w'.ownsRow B 3 1 v m (ik q).toList) (f : Rm.Frm (fun k => v.ownBlock = some k) w w') : Pl B pv n (Ps.set i q) vs w' := by
  obtain ⟨m0, hm0⟩ := h.own i v p hv hp
  refine ⟨own_keep2 h.row fun k hk => f.blk k (h.row.lt k hk).2 fun e => ?_, by simp [h.len], fun j u r h1 h2 => ?_, h.apt⟩
  · obtain ⟨C, hC⟩ := own_tyV hm0 e
    obtain ⟨C2, hC2⟩ := own_tyV h.row hk
    rw [hC] at hC2
    injection hC2 with e1
    injection e1 with _ e2
    exact absurd e2 (by decide)
  · by_cases e : j = i
    · subst e
      rw [hv] at h1
      have e1 := Option.some.inj h1
      subst e1
      have hi := (List.getElem?_eq_some_iff.1 hp).1
      rw [List.getElem?_set_self hi] at h2
      have e2 := Option.some.inj h2
      subst e2
      exact ⟨m, ho⟩
    · rw [List.getElem?_set_ne (fun k => e k.symm)] at h2
      obtain ⟨m1, hm1⟩ := h.own j u r h1 h2
      exact ⟨m1, own_keep2 hm1 fun k hk => f.blk k (hm1.lt k hk).2 fun e2 => h.apt j i u v k e h1 hv hk e2⟩
end
/-- The first i lists are in order. -/
def srs (Ps : List (List Nat)) (i : Nat) : List (List Nat) := (Ps.take i).map srt ++ Ps.drop i
theorem srs_zero (Ps : List (List Nat)) : srs Ps 0 = Ps := by simp [srs]
theorem srs_all (Ps : List (List Nat)) : srs Ps Ps.length = Ps.map srt := by simp [srs]
theorem srs_at {Ps : List (List Nat)} {i : Nat} {p : List Nat} (h : Ps[i]? = some p) : (srs Ps i)[i]? = some p := by
  have hi := (List.getElem?_eq_some_iff.1 h).1
  unfold srs
  have hl : ((Ps.take i).map srt).length = i := by simp; omega
  rw [List.getElem?_append_right (by omega), hl, Nat.sub_self, List.getElem?_drop, Nat.add_zero, h]
theorem srs_step {Ps : List (List Nat)} {i : Nat} {p : List Nat} (h : Ps[i]? = some p) : (srs Ps i).set i (srt p) = srs Ps (i + 1) := by
  have hi := (List.getElem?_eq_some_iff.1 h).1
  have hl : ((Ps.take i).map srt).length = i := by simp; omega
  unfold srs
  rw [List.set_append_right _ _ (by omega), hl, Nat.sub_self, List.take_add_one, h, List.map_append, List.append_assoc]
  congr 1
  have : Ps.drop i = p :: Ps.drop (i + 1) := by
    rw [List.drop_eq_getElem_cons hi]
    congr 1
    exact Option.some.inj ((List.getElem?_eq_getElem hi).symm.trans h)
  rw [this]
  rfl
end Go.Proofs.Ytibhjkmbbfgnpaa

/- Graphs in groups: lists of one's own, put into another order (what a sort leaves). -/
namespace Go.Proofs.Ytibhjkmbbfgnpaa
open Go.RowKit GM Gl
set_option maxRecDepth 20000
section
variable {α : Type} [Inhabited α] {enc : α → Value} {w : World} {g n : Nat} {os : Array Obj} {cur : Array Value} {e : TypeId}
theorem holdsG (d : Array α) (hb : w.heap[g]? = some (.cells cur e (0, 0))) (hc : ∀ j, j < d.size → cur[j]? = some (enc d[j]!)) : Go.Sort.Holds enc w g 0 d := fun j hj => by
  rw [Nat.zero_add]
  exact ⟨(cell_of_row _ _ _ _ _ _ hb).trans (hc j hj), frozen_of_row _ _ _ _ _ hb⟩
/-- The world that a sort leaves. -/
def srtW (enc : α → Value) (w : World) (g n : Nat) (d : Array α) (os : Array Obj) : World := Go.Sort.grow (Go.Sort.putRow enc (Go.Sort.ahead w n) g 0 d) os
theorem srtW_old (d : Array α) {k : Nat} {o : Option Obj} (hk : k < w.heap.size) (hg : k ≠ g) (ho : w.heap[k]? = o) : (srtW enc w g n d os).heap[k]? = o := by
  unfold srtW Go.Sort.grow Go.Sort.putRow Go.Sort.mapBlock Go.Sort.ahead
  show ((w.heap.modify g _) ++ os)[k]? = o
  rw [Array.getElem?_append_left (by simpa using hk), Array.getElem?_modify, if_neg (fun q => hg q.symm)]
  exact ho
theorem srtW_row (d : Array α) (hb : w.heap[g]? = some (.cells cur e (0, 0))) : (srtW enc w g n d os).heap[g]? = some (.cells (Go.Sort.putCells enc 0 d cur) e (0, 0)) := by
  have hk := (Array.getElem?_eq_some_iff.1 hb).1
  unfold srtW Go.Sort.grow Go.Sort.putRow Go.Sort.mapBlock Go.Sort.ahead
  show ((w.heap.modify g _) ++ os)[g]? = _
  rw [Array.getElem?_append_left (by simpa using hk), Array.getElem?_modify, if_pos rfl, hb]
  rfl
theorem srtW_frm (d : Array α) : Rm.Frm (fun k => k = g) w (srtW enc w g n d os) := by
  refine ⟨rfl, rfl, rfl, ?_, fun k hk hx => srtW_old d hk hx rfl⟩
  unfold srtW Go.Sort.grow Go.Sort.putRow Go.Sort.mapBlock Go.Sort.ahead
  simp
theorem putG_at (d : Array α) {j : Nat} (hj : j < d.size) (hc : j < cur.size) : (Go.Sort.putCells enc 0 d cur)[j]? = some (enc d[j]!) := by
  simp [Go.Sort.putCells, hj, hc]
theorem putG_size (d : Array α) : (Go.Sort.putCells enc 0 d cur).size = cur.size := by simp [Go.Sort.putCells]
end
section
variable {B n : Nat} {Ps : List (List Nat)} {vs : List Value} {w : World} {g c : Nat}
/-- The lists by an order of their numbers. -/
theorem Pl.order [Inhabited (Fin n)] (h : Pl B (.slice (some ⟨g, 0, none⟩) n c) n Ps vs w) {cur : Array Value} (hb : w.heap[g]? = some (.cells cur 28 (0, 0))) (d : Array (Fin n)) (hsz : d.size = n) (hnd : d.toList.Nodup) (m : Nat) (os : Array Obj) :
    Pl B (.slice (some ⟨g, 0, none⟩) n c) n (d.toList.map fun i => Ps.getD i.val []) (d.toList.map fun i => vs.getD i.val default) (srtW (fun i : Fin n => vs.getD i.val default) w g m d os) := by
  have hl : vs.length = n := by rw [h.len, ← h.num]
  have hlp : Ps.length = n := h.num.symm
  obtain ⟨h0, h1⟩ := h.row
  have dl : d.toList.length = n := by simpa using hsz
  refine ⟨⟨by simp [hsz], ?_⟩, by simp, fun i v p q1 q2 => ?_, fun i j v u k hij q1 q2 => ?_⟩
  · rcases h1 with ⟨e, h1⟩ | ⟨g', cap, cur', e, hB, hg, hnc, hcm, hcs, htk⟩
    · cases e
    · injection e with e1 e2 e3
      injection e1 with e1
      injection e1 with e1 _ _
      subst e1 e3
      rw [hb] at hg
      have e4 := Option.some.inj hg
      injection e4 with e5
      subst e5
      refine .inr ⟨g, c, _, rfl, hB, srtW_row d hb, hnc, hcm, by rw [putG_size]; exact hcs, ?_⟩
      apply List.ext_getElem?
      intro j
      by_cases hj : j < n
      · rw [List.getElem?_take_of_lt (by omega), Array.getElem?_toList, putG_at d (by omega) (by omega)]
        simp [hsz, hj]
      · rw [List.getElem?_take_eq_none (by omega), List.getElem?_eq_none (by simp; omega)]
  · rw [List.getElem?_map] at q1 q2
    obtain ⟨a, a1, a2⟩ := Option.map_eq_some_iff.1 q1
    obtain ⟨b, b1, b2⟩ := Option.map_eq_some_iff.1 q2
    rw [a1] at b1
    have := Option.some.inj b1
    subst this
    have han := a.isLt
    have v1 : vs[a.val]? = some v := by rw [← a2]; simp [List.getD, hl, han]
    have p1 : Ps[a.val]? = some p := by rw [← b2]; simp [List.getD, hlp, han]
    obtain ⟨m1, hm1⟩ := h.own a.val v p v1 p1
    refine ⟨m1, own_keep2 hm1 fun k hk => srtW_old d (hm1.lt k hk).2 (fun e => ?_) rfl⟩
    obtain ⟨C, hC⟩ := own_tyV hm1 hk
    rw [e, hb] at hC
    injection hC with e1
    injection e1 with _ e2
    exact absurd e2 (by decide)
  · rw [List.getElem?_map] at q1 q2
    obtain ⟨a, a1, a2⟩ := Option.map_eq_some_iff.1 q1
    obtain ⟨b, b1, b2⟩ := Option.map_eq_some_iff.1 q2
    have han := a.isLt
    have hbn := b.isLt
    have v1 : vs[a.val]? = some v := by rw [← a2]; simp [List.getD, hl, han]
    have v2 : vs[b.val]? = some u := by rw [← b2]; simp [List.getD, hl, hbn]
    refine h.apt a.val b.val v u k (fun e => hij ?_) v1 v2
    have hab : a = b := Fin.ext e
    subst hab
    exact (List.getElem?_inj (List.getElem?_eq_some_iff.1 a1).1 hnd).1 (a1.trans b1.symm)
end
end Go.Proofs.Ytibhjkmbbfgnpaa

/- Graphs in groups: lists told apart by their heads. -/
namespace Go.Proofs.Ytibhjkmbbfgnpaa
open Go.RowKit GM Gl
set_option maxRecDepth 20000
def cI (x y : Nat) : Int := if x < y then -1 else if y < x then 1 else 0
theorem nanI_any (x : Nat) (w : World) : Calls Try.prog 76 #[.int .i64 (x : Int)] w fun e w' => e = .returned (.bool false) ∧ w' = w := by
  go_enter Try.func76, Try.ntmps76
  go_wp2_with fail
  go_ret
  exact ⟨by simp, rfl⟩
set_option maxRecDepth 100000 in
theorem cmpI_any (x y : Nat) (w : World) : Calls Try.prog 56 #[.int .i64 (x : Int), .int .i64 (y : Int)] w fun e w' => e = .returned (.int .i64 (cI x y)) ∧ w' = w := by
  have C1 := mkHid (nanI_any x w)
  have C2 := mkHid (nanI_any y w)
  by_cases h : x < y
  · rw [show cI x y = -1 by simp [cI, h]]
    have h1 := ltI h
    clear h
    go_enter Try.func56, Try.ntmps56
    go_wp2_with fail
    refine C1.out.mono ?_
    rintro e w' ⟨rfl, rfl⟩
    go_wp2_with fail
    refine C2.out.mono ?_
    rintro e w' ⟨rfl, rfl⟩
    go_wp2_with fail
    go_ret
    exact ⟨rfl, rfl⟩
  · have h1 := nltI h
    by_cases k : y < x
    · rw [show cI x y = 1 by simp [cI, h, k]]
      have k1 := ltI k
      clear h k
      go_enter Try.func56, Try.ntmps56
      go_wp2_with fail
      refine C1.out.mono ?_
      rintro e w' ⟨rfl, rfl⟩
      go_wp2_with fail
      refine C2.out.mono ?_
      rintro e w' ⟨rfl, rfl⟩
      go_wp2_with fail
      go_ret
      exact ⟨rfl, rfl⟩
    · rw [show cI x y = 0 by simp [cI, h, k]]
      have k1 := nltI k
      clear h k
      go_enter Try.func56, Try.ntmps56
      go_wp2_with fail
      refine C1.out.mono ?_
      rintro e w' ⟨rfl, rfl⟩
      go_wp2_with fail
      refine C2.out.mono ?_
      rintro e w' ⟨rfl, rfl⟩
      go_wp2_with fail
      go_ret
      exact ⟨rfl, rfl⟩
set_option maxRecDepth 100000 in
/-- The closure that tells two groups apart. -/
theorem grpC_any (w : World) {g1 g2 n1 n2 c1 c2 x y : Nat} {off1 off2 : Nat} (h1 : w.cell? ⟨g1, off1, none⟩ = some (.int .i64 (x : Int))) (h2 : w.cell? ⟨g2, off2, none⟩ = some (.int .i64 (y : Int))) (p1 : 0 < n1) (p2 : 0 < n2) :
    Calls Try.prog 55 #[.slice (some ⟨g1, off1, none⟩) n1 c1, .slice (some ⟨g2, off2, none⟩) n2 c2] w fun e w' => e = .returned (.int .i64 (cI x y)) ∧ ∃ q, w' = w.drewN q := by
  have C : ∀ q, Calls Try.prog 56 #[.int .i64 (x : Int), .int .i64 (y : Int)] (w.drewN q) fun e w' => e = .returned (.int .i64 (cI x y)) ∧ w' = w.drewN q := fun q => cmpI_any x y _
  have y1 : ∀ q, (w.drewN q).cell? ⟨g1, off1, none⟩ = some (.int .i64 (x : Int)) := fun _ => h1
  have y2 : ∀ q, (w.drewN q).cell? ⟨g2, off2, none⟩ = some (.int .i64 (y : Int)) := fun _ => h2
  have q1 : (0 : Int) < (n1 : Int) := by omega
  have q2 : (0 : Int) < (n2 : Int) := by omega
  clear p1 p2
  go_enter Try.func55, Try.ntmps55
  go_wp2_with fail
  go_quiet ((go_at_call 56; exact Calls.quiet_of_same (C _)))
  go_wp2_with fail
  go_ret
  exact ⟨rfl, _, rfl⟩
end Go.Proofs.Ytibhjkmbbfgnpaa

/- Graphs in groups: the groups by their heads. -/
namespace Go.Proofs.Ytibhjkmbbfgnpaa
open Go.RowKit GM Gl
set_option maxRecDepth 20000
/-- A list's head. -/
def hdP (Ps : List (List Nat)) (i : Nat) : Nat := (Ps.getD i []).getD 0 0
theorem cI_lt (x y : Nat) : cI x y < 0 ↔ x < y := by
  unfold cI
  split
  · simp_all
  · split <;> simp_all
theorem swoP (f : Nat → Nat) (n : Nat) : Go.Sort.SWO (ltOf fun i j : Fin n => cI (f i.val) (f j.val)) where
  irrefl x := by
    unfold ltOf
    rw [decide_eq_false_iff_not, cI_lt]
    omega
  trans x y z h1 h2 := by
    unfold ltOf at *
    rw [decide_eq_true_iff, cI_lt] at *
    omega
  ntrans x y z h1 h2 := by
    unfold ltOf at *
    rw [decide_eq_false_iff_not, cI_lt] at *
    omega
@[reducible] def finP {n : Nat} (h : 0 < n) : Inhabited (Fin n) := ⟨⟨0, h⟩⟩
def idP (n : Nat) : Array (Fin n) := (List.finRange n).toArray
theorem idP_size (n : Nat) : (idP n).size = n := by simp [idP]
theorem idP_at {n : Nat} [Inhabited (Fin n)] {j : Nat} (h : j < n) : (idP n)[j]! = ⟨j, h⟩ := by
  rw [getElem!_pos _ _ (by rw [idP_size]; exact h)]
  simp [idP]
/-- The closure, in every world that the sort passes through. -/
theorem grp_lays {n : Nat} [Inhabited (Fin n)] {B c g : Nat} {Ps : List (List Nat)} {vs : List Value} {w : World} (h : Pl B (.slice (some ⟨g, 0, none⟩) n c) n Ps vs w) (hne : ∀ p ∈ Ps, 0 < p.length) :
    CmpLays1 Try.prog 55 #[] (fun i : Fin n => vs.getD i.val default) (fun i j : Fin n => cI (hdP Ps i.val) (hdP Ps j.val)) g 0 n w := fun m os dk _ x y => by
  have key : ∀ z : Fin n, ∃ gp off ln cp, vs.getD z.val default = .slice (some ⟨gp, off, none⟩) ln cp ∧ 0 < ln ∧ (srtW (fun i : Fin n => vs.getD i.val default) w g m dk os).cell? ⟨gp, off, none⟩ = some (.int .i64 ((hdP Ps z.val : Nat) : Int)) := fun z => by
    have hl : vs.length = n := by rw [h.len, ← h.num]
    have hlp : Ps.length = n := h.num.symm
    have hz := z.isLt
    have v1 : vs[z.val]? = some (vs.getD z.val default) := by simp [List.getD, hl, hz]
    have p1 : Ps[z.val]? = some (Ps.getD z.val []) := by simp [List.getD, hlp, hz]
    obtain ⟨m1, hm1⟩ := h.own z.val _ _ v1 p1
    have hp0 := hne _ (List.mem_of_getElem? p1)
    obtain ⟨gp, hil, hb⟩ := own_il hm1
    obtain ⟨o', cp, e, h1⟩ := hil
    obtain ⟨off, rfl, hg, hc⟩ := h1 hp0
    refine ⟨gp, off, _, cp, e, hp0, ?_⟩
    have c0 := hc 0 hp0
    rw [Nat.add_zero] at c0
    refine (World.cell?_of_block (w := w) (a := ⟨gp, off, none⟩) (srtW_old dk hg (fun e2 => ?_) rfl)).trans c0
    obtain ⟨C, hC⟩ := own_tyV hm1 (hb hp0).2
    obtain ⟨C2, hC2⟩ := own_tyV h.row (show (Value.slice (some ⟨g, 0, none⟩) n c).ownBlock = some gp by rw [← e2]; rfl)
    rw [hC] at hC2
    injection hC2 with e3
    injection e3 with _ e4
    exact absurd e4 (by decide)
  obtain ⟨g1, o1, n1, c1, e1, p1, k1⟩ := key x
  obtain ⟨g2, o2, n2, c2, e2, p2, k2⟩ := key y
  show Calls Try.prog 55 (#[vs.getD x.val default, vs.getD y.val default] ++ #[]) (srtW (fun i : Fin n => vs.getD i.val default) w g m dk os) _
  rw [e1, e2]
  refine (grpC_any _ k1 k2 p1 p2).mono ?_
  rintro e w' ⟨rfl, q, rfl⟩
  exact ⟨rfl, q, #[], by rw [Go.Sort.grow_empty]; rfl⟩
theorem idP_map {β : Type} (n : Nat) (l : List β) (x : β) (h : l.length = n) : ((List.finRange n).map fun i => l.getD i.val x) = l := by
  apply List.ext_getElem (by simp [h])
  intro k h1 h2
  simp [List.getD, h2]
theorem entersGrp : ∀ args w, (callFunc 55 args).run Try.prog w = .ok (.enter 55 args) w := enters_of Try.func55 (by kernel_rfl) rfl
theorem ext_full {β : Type} (d : Array β) {k : Nat} (h : d.size = k) : d.extract 0 k = d := by
  subst h
  simp
/-- What the sort's order says of the lists. -/
theorem ord_lists {n : Nat} [Inhabited (Fin n)] {Ps : List (List Nat)} {d : Array (Fin n)} (hlp : Ps.length = n) (hp : Go.Sort.PermIn 0 n (idP n) d) (hs : Go.Sort.SortedIn (ltOf fun i j : Fin n => cI (hdP Ps i.val) (hdP Ps j.val)) 0 n d) :
    d.size = n ∧ d.toList.Nodup ∧ (d.toList.map fun i => Ps.getD i.val []).Perm Ps ∧ (d.toList.map fun i => Ps.getD i.val []).Pairwise fun p q => p.getD 0 0 ≤ q.getD 0 0 := by
  obtain ⟨h1, -, h3⟩ := hp
  rw [idP_size] at h1
  have e1 : d.extract 0 n = d := ext_full d h1
  have e2 : ((idP n).extract 0 n) = idP n := ext_full _ (idP_size n)
  rw [e1, e2] at h3
  have h4 : d.toList.Perm (List.finRange n) := by simpa [idP] using h3
  refine ⟨h1, h4.nodup_iff.2 (List.nodup_finRange n), ?_, ?_⟩
  · have := h4.map fun i => Ps.getD i.val []
    rwa [idP_map n Ps [] hlp] at this
  · rw [List.pairwise_map, List.pairwise_iff_getElem]
    intro i j hi hj hij
    have hi' : i < d.size := by simpa using hi
    have hj' : j < d.size := by simpa using hj
    have := hs i j (Nat.zero_le _) hij (by omega)
    unfold ltOf at this
    rw [decide_eq_false_iff_not, cI_lt, getElem!_pos d i hi', getElem!_pos d j hj'] at this
    show hdP Ps _ ≤ hdP Ps _
    simp only [Array.getElem_toList]
    omega
end Go.Proofs.Ytibhjkmbbfgnpaa
