/- CardDepots: what the variables hold. -/
import Derived.Test.YtgimkeklnpppjaaDoorCdLaw
import Derived.Test.YtgimkeklnpppjaaDoorCards
import Derived.Test.YtgimkeklnpppjaaDoorTie
import Derived.Deep.DeepHandedRow
import Derived.Deep.Fields1
import Derived.Deep.Fields23
import Derived.Lib.LaidTab
import Derived.LaidHandle
import Derived.LaidLaws
import Derived.Deep.Strs
import Derived.SliceStrings
import Derived.OpenShut
import Derived.Carry
import Derived.JoinedCond
namespace Go.Proofs.YtgimkeklnpppjaaDoor.DCd
open Go.ChangeShapes Go.WideShapes Go.ChangeAt Go.RowKit
open Go.ChangeMaps (open_string shut_string)
set_option maxRecDepth 100000
theorem own : ownKnob Tryd.prog.godebug = none := by kernel_rfl
theorem cells9 : Tryd.prog.cellsOf 9 = 1 := by kernel_rfl
theorem cEStr : Tryd.prog.cellsOf 137 = 1 := by kernel_rfl
theorem cA15 : Tryd.prog.cellsOf 56 = 15 := by kernel_rfl
theorem cA20 : Tryd.prog.cellsOf 108 = 20 := by kernel_rfl
theorem cU64 : Tryd.prog.cellsOf 98 = 1 := by kernel_rfl
theorem laid_mem {W : World} : ∀ {l : List (String × DataW Unit)} {ps : List MemPlace}, DataW.LaidVars Tryd.prog W l ps → ∀ n d, (n, d) ∈ l →
    ∃ g t cs fuel p, Tryd.prog.globalNamed n = some g ∧ (Tryd.prog.globals[g]?).map (·.type) = some t ∧ W.var? Tryd.prog n = some cs ∧ DataW.trod (fun _ => ()) Tryd.prog W 0 (fun _ => true) false fuel t cs.toList = some (d, p) ∧ (∀ x ∈ p, x ∈ ps) ∧ ∀ i, i < cs.size → MemPlace.cell g i ∈ ps
  | [], _, _, n, d, hm => by cases hm
  | (n0, d0) :: r, ps, h, n, d, hm => by
    obtain ⟨g, t, cs, fuel, p, q, hg, ht, hv, hd, hr, rfl⟩ := h
    rcases List.mem_cons.1 hm with e | hm'
    · obtain ⟨rfl, rfl⟩ := Prod.mk.inj e
      refine ⟨g, t, cs, fuel, p, hg, ht, hv, hd, fun x hx => ?_, fun i hi => ?_⟩
      · exact List.mem_append.2 (.inl (List.mem_append.2 (.inr hx)))
      · refine List.mem_append.2 (.inl (List.mem_append.2 (.inl ?_)))
        exact List.mem_map.2 ⟨i, List.mem_range.2 hi, by simp⟩
    · obtain ⟨g', t', cs', f', p', h1, h2, h3, h4, h5, h6⟩ := laid_mem hr n d hm'
      exact ⟨g', t', cs', f', p', h1, h2, h3, h4, fun x hx => List.mem_append.2 (.inr (h5 x hx)), fun i hi => List.mem_append.2 (.inr (h6 i hi))⟩
theorem var_row {W : World} {n : String} {g : Nat} {cs : Array Value} (hg : Tryd.prog.globalNamed n = some g) (hv : W.var? Tryd.prog n = some cs) : ∃ t f, W.heap[g]? = some (.cells cs t f) := by
  unfold World.var? at hv
  rw [hg] at hv
  simp only [Option.bind_some] at hv
  split at hv
  · rename_i cs' t f hh
    exact ⟨t, f, by rw [hh, Option.some.inj hv]⟩
  · cases hv
theorem namePE {u : TypeId} (h : Tryd.prog.typeName? 3 u = some "*errors.errorString") : u = 135 :=
  typeName_ptr_named (P := Tryd.prog) (nm := "errors.errorString") (tp := 135) (by kernel_rfl) (by kernel_rfl) (by decide) u (by rw [h]; decide)
theorem open_err {w : World} {fuel : Nat} {cs : List Value} {nm : String} {d : DataW Unit} {p : List MemPlace} (h : DataW.trod (fun _ => ()) Tryd.prog w 0 (fun _ => true) false fuel 33 cs = some (.iface nm d, p)) :
    ∃ u v k, cs = [.iface u v] ∧ Tryd.prog.typeName? 3 u = some nm ∧ DataW.trod (fun _ => ()) Tryd.prog w 0 (fun _ => true) false k u v.cells.toList = some (d, p) := by
  cases fuel with
  | zero => simp [DataW.trod] at h
  | succ fuel =>
    simp only [DataW.trod, Tryd.underlying33] at h
    split at h
    all_goals first
      | (exfalso; simp_all; done)
      | skip
    rename_i u v _
    cases hn : Tryd.prog.typeName? 3 u with
    | none => simp [hn] at h
    | some name =>
      simp only [hn] at h
      obtain ⟨x, hx, he⟩ := Option.map_eq_some_iff.1 h
      simp only [Prod.mk.injEq, DataW.iface.injEq] at he
      obtain ⟨⟨rfl, rfl⟩, rfl⟩ := he
      exact ⟨u, v, fuel, rfl, hn, hx⟩
/-- A sentinel's cells. -/
theorem sen_of {W : World} {l : List (String × DataW Unit)} {ps : List MemPlace} (hl : DataW.LaidVars Tryd.prog W l ps)
    (hps : ∀ b off, MemPlace.cell b off ∈ ps → (∃ c t, W.heap[b]? = some (.cells c t (0, 0))) ∧ ∀ u v, W.cell? ⟨b, off, none⟩ = some (.iface u v) → Value.okWide Tryd.prog W .any 0 u v)
    {n : String} {g : Nat} {tx : List UInt8} (hg : Tryd.prog.globalNamed n = some g) (ht : (Tryd.prog.globals[g]?).map (·.type) = some 33)
    (hm : (n, DataW.iface "*errors.errorString" (.ptr (.agg [.lit (.string tx)]))) ∈ l) :
    ∃ b o, W.cell? ⟨g, 0, none⟩ = some (.iface 135 (.pointer (some ⟨b, o, none⟩))) ∧ W.cell? ⟨b, o, none⟩ = some (.string ⟨tx.toArray⟩) ∧ ∃ c t, W.heap[b]? = some (.cells c t (0, 0)) := by
  obtain ⟨g', t', cs, fuel, p, h1, h2, h3, h4, h5, h6⟩ := laid_mem hl _ _ hm
  obtain rfl := Option.some.inj (hg.symm.trans h1)
  obtain rfl := Option.some.inj (ht.symm.trans h2)
  obtain ⟨u, v, k, e1, e2, e3⟩ := open_err h4
  obtain rfl := namePE e2
  obtain ⟨tt, ff, hr⟩ := var_row hg h3
  have h0 : cs[0]? = some (.iface 135 v) := by rw [← Array.getElem?_toList, e1]; rfl
  have hcell : W.cell? ⟨g, 0, none⟩ = some (.iface 135 v) := by simp [World.cell?, hr, h0]
  have hok := (hps g 0 (h6 0 (by rw [← Array.length_toList, e1]; simp))).2 _ _ hcell
  obtain ⟨a, rfl⟩ := okWide_pointer Tryd.underlying135 hok
  rcases Go.Deep.open_ptr_fields1 Tryd.underlying135 Tryd.underlying137 (by kernel_rfl) cEStr e3 with ⟨-, hx⟩ | ⟨b, o, k2, v0, y0, hc, -, hx, hcc, hy⟩
  · cases hx
  · have ha : a = some ⟨b, o, none⟩ := by simpa [Value.cells] using hc
    subst ha
    simp only [Prod.mk.injEq, DataW.ptr.injEq, DataW.agg.injEq, List.cons.injEq, and_true] at hx
    obtain ⟨hx1, hx2⟩ := hx
    obtain ⟨s', s1, s2, s3⟩ := DataW.trod_string Tryd.underlying9 hy
    refine ⟨b, o, hcell, ?_, (hps b o (h5 _ ?_)).1⟩
    · rw [hcc]
      rw [s2] at hx1
      simp only [DataW.lit.injEq, Lit.string.injEq] at hx1
      simp only [List.cons.injEq, and_true] at s1
      rw [s1, hx1]
    · rw [hx2]
      simp [MemPlace.row]
/-- The heads. -/
theorem heads_at {w : World} {fuel : Nat} {cs : List Value} {l : List (DataW Unit)} {p : List MemPlace}
    (h : DataW.trod (fun _ => ()) Tryd.prog w 0 (fun _ => true) false fuel 56 cs = some (.agg l, p)) (j : Nat) (hj : j < 15) (s : List UInt8)
    (hd : l[j]? = some (.lit (.string s))) : cs[j]? = some (.string ⟨s.toArray⟩) := by
  cases fuel with
  | zero => simp [DataW.trod] at h
  | succ fuel =>
    simp only [DataW.trod, Tryd.underlying56, cells9, cA15] at h
    split at h
    · rename_i hl
      obtain ⟨xs, hm, hx⟩ := Option.map_eq_some_iff.1 h
      have hxs := congrArg Prod.fst hx
      simp only [DataW.agg.injEq] at hxs
      obtain ⟨b, hb, hf⟩ := Lib.mapM_at hm j j (by simp [hj])
      have h3 : (xs.map (·.1))[j]? = some b.1 := by simp [hb]
      rw [hxs, hd] at h3
      obtain ⟨s', s1, s2, s3⟩ := DataW.trod_string Tryd.underlying9 hf
      have h4 := Option.some.inj h3
      rw [s2] at h4
      simp only [DataW.lit.injEq, Lit.string.injEq] at h4
      have e6 : cs[j]? = some (.string s') := by
        have := congrArg (·[0]?) s1
        simp only [List.getElem?_take, List.getElem?_drop, List.getElem?_cons_zero] at this
        simp at this
        rw [← this]
      rw [e6, h4]
    · cases h
end Go.Proofs.YtgimkeklnpppjaaDoor.DCd
