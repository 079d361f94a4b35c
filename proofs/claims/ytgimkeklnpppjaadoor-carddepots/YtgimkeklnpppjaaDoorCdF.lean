/- errors.Is at a fault, and at a fault in a line. Made by a program. -/
import Derived.Test.YtgimkeklnpppjaaDoorCdE
namespace Go.Proofs.YtgimkeklnpppjaaDoor
open Go.RowKit Go.Extern.Stop Go.Stop Go.Extern
set_option maxRecDepth 100000 in
set_option maxHeartbeats 4000000 in
theorem isF_same (a : Addr) (fld at_ : Int) (w : World) :
    Calls Tryd.prog 20 #[.iface 44 (.agg #[.iface 135 (.pointer (some a)), .int .i64 fld, .int .i64 at_]), .iface 135 (.pointer (some a))] w fun e w' => e = .returned (.bool true) ∧ w' = (w.alloc (.cells #[.iface 135 (.pointer (some a)), .int .i64 fld, .int .i64 at_] 44)) := by
  obtain ⟨i, hi, hcmp⟩ := Option.map_eq_some_iff.1 isComp
  obtain ⟨j, hj, hjs⟩ := Option.map_eq_some_iff.1 isSize
  have h8 := callTypeOf
  have h32 := callComp
  have tT := isTypeOf
  have cT := isComparable
  have mR := isMethodComparable
  have nE := noIsE
  have uE := noUnwrapE
  have vE := noUnwrapsE
  have nF := noIsF
  have uF := hasUnwrapF
  have mF := methodUnwrapF
  have nL := noIsL
  have uL := hasUnwrapL
  have mL := methodUnwrapL
  have hty := fun W => run_eql_iface_types (P := Tryd.prog) 44 135 (.agg #[.iface 135 (.pointer (some a)), .int .i64 fld, .int .i64 at_]) (.pointer (some a)) Tryd.underlying33 (by decide) W
  have heq := fun W => run_eql_iface_ptr_same (P := Tryd.prog) W a Tryd.underlying33 Tryd.underlying135 hi hcmp hj
  clear hi hcmp hj hjs
  go_enter Tryd.func20, Tryd.ntmps20
  go_wp2
  refine wp_loop_rounds 2 ?_
  rw [rounds_succ]
  go_wp2_with (first
    | (go_at_call 88; refine (unwF _ _ _ _).mono ?_; rintro e w' ⟨rfl, rfl⟩)
    | (go_at_call 90; refine (unwL _ _ _ _).mono ?_; rintro e w' ⟨rfl, rfl⟩))
  rw [rounds_succ]
  go_wp2_with (first
    | (go_at_call 88; refine (unwF _ _ _ _).mono ?_; rintro e w' ⟨rfl, rfl⟩)
    | (go_at_call 90; refine (unwL _ _ _ _).mono ?_; rintro e w' ⟨rfl, rfl⟩))
  go_ret
  exact ⟨rfl, rfl⟩
set_option maxRecDepth 100000 in
set_option maxHeartbeats 4000000 in
theorem isF_other (a b : Addr) (fld at_ : Int) (w : World) (hne : a ≠ b) (ca cb : Array Value) (ta tb : TypeId) (ha : w.heap[a.block]? = some (.cells ca ta (0, 0))) (hb : w.heap[b.block]? = some (.cells cb tb (0, 0))) :
    Calls Tryd.prog 20 #[.iface 44 (.agg #[.iface 135 (.pointer (some a)), .int .i64 fld, .int .i64 at_]), .iface 135 (.pointer (some b))] w fun e w' => e = .returned (.bool false) ∧ w' = (w.alloc (.cells #[.iface 135 (.pointer (some a)), .int .i64 fld, .int .i64 at_] 44)) := by
  obtain ⟨i, hi, hcmp⟩ := Option.map_eq_some_iff.1 isComp
  obtain ⟨j, hj, hjs⟩ := Option.map_eq_some_iff.1 isSize
  have h8 := callTypeOf
  have h32 := callComp
  have tT := isTypeOf
  have cT := isComparable
  have mR := isMethodComparable
  have nE := noIsE
  have uE := noUnwrapE
  have vE := noUnwrapsE
  have nF := noIsF
  have uF := hasUnwrapF
  have mF := methodUnwrapF
  have nL := noIsL
  have uL := hasUnwrapL
  have mL := methodUnwrapL
  have hty := fun W => run_eql_iface_types (P := Tryd.prog) 44 135 (.agg #[.iface 135 (.pointer (some a)), .int .i64 fld, .int .i64 at_]) (.pointer (some b)) Tryd.underlying33 (by decide) W
  have la : a.block < w.heap.size := (Array.getElem?_eq_some_iff.1 ha).1
  have lb : b.block < w.heap.size := (Array.getElem?_eq_some_iff.1 hb).1
  have heq := run_eql_iface_ptr_other (P := Tryd.prog) (w.alloc (.cells #[.iface 135 (.pointer (some a)), .int .i64 fld, .int .i64 at_] 44)) Tryd.underlying33 Tryd.underlying135 hi hcmp hj (by rw [hjs]; decide) hne (a := a) (b := b) (ca := ca) (cb := cb) (ta := ta) (tb := tb)
    ((heap_alloc_old _ _ (h := la)).trans ha) ((heap_alloc_old _ _ (h := lb)).trans hb)
  clear la lb ha hb hne
  clear hi hcmp hj hjs
  go_enter Tryd.func20, Tryd.ntmps20
  go_wp2
  refine wp_loop_rounds 2 ?_
  rw [rounds_succ]
  go_wp2_with (first
    | (go_at_call 88; refine (unwF _ _ _ _).mono ?_; rintro e w' ⟨rfl, rfl⟩)
    | (go_at_call 90; refine (unwL _ _ _ _).mono ?_; rintro e w' ⟨rfl, rfl⟩))
  rw [rounds_succ]
  go_wp2_with (first
    | (go_at_call 88; refine (unwF _ _ _ _).mono ?_; rintro e w' ⟨rfl, rfl⟩)
    | (go_at_call 90; refine (unwL _ _ _ _).mono ?_; rintro e w' ⟨rfl, rfl⟩))
  go_ret
  exact ⟨rfl, rfl⟩
set_option maxRecDepth 100000 in
set_option maxHeartbeats 4000000 in
theorem isL_same (a : Addr) (beg fld at_ : Int) (w : World) :
    Calls Tryd.prog 20 #[.iface 50 (.agg #[.int .i64 beg, .iface 44 (.agg #[.iface 135 (.pointer (some a)), .int .i64 fld, .int .i64 at_])]), .iface 135 (.pointer (some a))] w fun e w' => e = .returned (.bool true) ∧ w' = ((w.alloc (.cells #[.int .i64 beg, .iface 44 (.agg #[.iface 135 (.pointer (some a)), .int .i64 fld, .int .i64 at_])] 50)).alloc (.cells #[.iface 135 (.pointer (some a)), .int .i64 fld, .int .i64 at_] 44)) := by
  obtain ⟨i, hi, hcmp⟩ := Option.map_eq_some_iff.1 isComp
  obtain ⟨j, hj, hjs⟩ := Option.map_eq_some_iff.1 isSize
  have h8 := callTypeOf
  have h32 := callComp
  have tT := isTypeOf
  have cT := isComparable
  have mR := isMethodComparable
  have nE := noIsE
  have uE := noUnwrapE
  have vE := noUnwrapsE
  have nF := noIsF
  have uF := hasUnwrapF
  have mF := methodUnwrapF
  have nL := noIsL
  have uL := hasUnwrapL
  have mL := methodUnwrapL
  have hty2 := fun W => run_eql_iface_types (P := Tryd.prog) 50 135 (.agg #[.int .i64 beg, .iface 44 (.agg #[.iface 135 (.pointer (some a)), .int .i64 fld, .int .i64 at_])]) (.pointer (some a)) Tryd.underlying33 (by decide) W
  have hty := fun W => run_eql_iface_types (P := Tryd.prog) 44 135 (.agg #[.iface 135 (.pointer (some a)), .int .i64 fld, .int .i64 at_]) (.pointer (some a)) Tryd.underlying33 (by decide) W
  have heq := fun W => run_eql_iface_ptr_same (P := Tryd.prog) W a Tryd.underlying33 Tryd.underlying135 hi hcmp hj
  clear hi hcmp hj hjs
  go_enter Tryd.func20, Tryd.ntmps20
  go_wp2
  refine wp_loop_rounds 3 ?_
  rw [rounds_succ]
  go_wp2_with (first
    | (go_at_call 88; refine (unwF _ _ _ _).mono ?_; rintro e w' ⟨rfl, rfl⟩)
    | (go_at_call 90; refine (unwL _ _ _ _).mono ?_; rintro e w' ⟨rfl, rfl⟩))
  rw [rounds_succ]
  go_wp2_with (first
    | (go_at_call 88; refine (unwF _ _ _ _).mono ?_; rintro e w' ⟨rfl, rfl⟩)
    | (go_at_call 90; refine (unwL _ _ _ _).mono ?_; rintro e w' ⟨rfl, rfl⟩))
  rw [rounds_succ]
  go_wp2_with (first
    | (go_at_call 88; refine (unwF _ _ _ _).mono ?_; rintro e w' ⟨rfl, rfl⟩)
    | (go_at_call 90; refine (unwL _ _ _ _).mono ?_; rintro e w' ⟨rfl, rfl⟩))
  go_ret
  exact ⟨rfl, rfl⟩
set_option maxRecDepth 100000 in
set_option maxHeartbeats 4000000 in
theorem isL_other (a b : Addr) (beg fld at_ : Int) (w : World) (hne : a ≠ b) (ca cb : Array Value) (ta tb : TypeId) (ha : w.heap[a.block]? = some (.cells ca ta (0, 0))) (hb : w.heap[b.block]? = some (.cells cb tb (0, 0))) :
    Calls Tryd.prog 20 #[.iface 50 (.agg #[.int .i64 beg, .iface 44 (.agg #[.iface 135 (.pointer (some a)), .int .i64 fld, .int .i64 at_])]), .iface 135 (.pointer (some b))] w fun e w' => e = .returned (.bool false) ∧ w' = ((w.alloc (.cells #[.int .i64 beg, .iface 44 (.agg #[.iface 135 (.pointer (some a)), .int .i64 fld, .int .i64 at_])] 50)).alloc (.cells #[.iface 135 (.pointer (some a)), .int .i64 fld, .int .i64 at_] 44)) := by
  obtain ⟨i, hi, hcmp⟩ := Option.map_eq_some_iff.1 isComp
  obtain ⟨j, hj, hjs⟩ := Option.map_eq_some_iff.1 isSize
  have h8 := callTypeOf
  have h32 := callComp
  have tT := isTypeOf
  have cT := isComparable
  have mR := isMethodComparable
  have nE := noIsE
  have uE := noUnwrapE
  have vE := noUnwrapsE
  have nF := noIsF
  have uF := hasUnwrapF
  have mF := methodUnwrapF
  have nL := noIsL
  have uL := hasUnwrapL
  have mL := methodUnwrapL
  have hty2 := fun W => run_eql_iface_types (P := Tryd.prog) 50 135 (.agg #[.int .i64 beg, .iface 44 (.agg #[.iface 135 (.pointer (some a)), .int .i64 fld, .int .i64 at_])]) (.pointer (some b)) Tryd.underlying33 (by decide) W
  have hty := fun W => run_eql_iface_types (P := Tryd.prog) 44 135 (.agg #[.iface 135 (.pointer (some a)), .int .i64 fld, .int .i64 at_]) (.pointer (some b)) Tryd.underlying33 (by decide) W
  have la : a.block < w.heap.size := (Array.getElem?_eq_some_iff.1 ha).1
  have lb : b.block < w.heap.size := (Array.getElem?_eq_some_iff.1 hb).1
  have heq := run_eql_iface_ptr_other (P := Tryd.prog) ((w.alloc (.cells #[.int .i64 beg, .iface 44 (.agg #[.iface 135 (.pointer (some a)), .int .i64 fld, .int .i64 at_])] 50)).alloc (.cells #[.iface 135 (.pointer (some a)), .int .i64 fld, .int .i64 at_] 44)) Tryd.underlying33 Tryd.underlying135 hi hcmp hj (by rw [hjs]; decide) hne (a := a) (b := b) (ca := ca) (cb := cb) (ta := ta) (tb := tb)
    ((heap_alloc_old _ _ (h := by simp; omega)).trans ((heap_alloc_old _ _ (h := la)).trans ha)) ((heap_alloc_old _ _ (h := by simp; omega)).trans ((heap_alloc_old _ _ (h := lb)).trans hb))
  clear la lb ha hb hne
  clear hi hcmp hj hjs
  go_enter Tryd.func20, Tryd.ntmps20
  go_wp2
  refine wp_loop_rounds 3 ?_
  rw [rounds_succ]
  go_wp2_with (first
    | (go_at_call 88; refine (unwF _ _ _ _).mono ?_; rintro e w' ⟨rfl, rfl⟩)
    | (go_at_call 90; refine (unwL _ _ _ _).mono ?_; rintro e w' ⟨rfl, rfl⟩))
  rw [rounds_succ]
  go_wp2_with (first
    | (go_at_call 88; refine (unwF _ _ _ _).mono ?_; rintro e w' ⟨rfl, rfl⟩)
    | (go_at_call 90; refine (unwL _ _ _ _).mono ?_; rintro e w' ⟨rfl, rfl⟩))
  rw [rounds_succ]
  go_wp2_with (first
    | (go_at_call 88; refine (unwF _ _ _ _).mono ?_; rintro e w' ⟨rfl, rfl⟩)
    | (go_at_call 90; refine (unwL _ _ _ _).mono ?_; rintro e w' ⟨rfl, rfl⟩))
  go_ret
  exact ⟨rfl, rfl⟩
end Go.Proofs.YtgimkeklnpppjaaDoor
