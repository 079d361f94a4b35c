/- errors.As at a fault and at a fault in a line: Go's own text is walked. Made by a program. -/
import Derived.Test.YtgimkeklnpppjaaDoorCdG
namespace Go.Proofs.YtgimkeklnpppjaaDoor
open Go.RowKit Go.Extern.Stop Go.Stop Go.Extern
set_option maxRecDepth 100000 in
set_option maxHeartbeats 8000000 in
theorem as_FF (a : Addr) (fld at_ : Int) (tg : Nat) (old : Array Value) (w : World) (hg : w.cell? ⟨6, 0, none⟩ = some (.iface 82 (.agg #[.pointer (some ⟨14, 33, none⟩)]))) (hs : 6 < w.heap.size) (ht : w.heap[tg]? = some (.cells old 44 (0, 0))) (hz : old.size = 3) :
    Calls Tryd.prog 21 #[.iface 44 (.agg #[.iface 135 (.pointer (some a)), .int .i64 fld, .int .i64 at_]), .iface 54 (.pointer (some ⟨tg, 0, none⟩))] w fun e w' => e = .returned (.bool true) ∧ w' = ((((w.alloc (.cells #[.pointer (some ⟨tg, 0, none⟩)] 54)).alloc (.cells #[.pointer (some ⟨14, 54, none⟩), .pointer (some ⟨w.heap.size, 0, none⟩), .int .u64 150] 71)).alloc (.cells #[.pointer (some ⟨14, 54, none⟩), .pointer (some ⟨w.heap.size, 0, none⟩), .int .u64 150] 71)).alloc (.cells #[.iface 135 (.pointer (some a)), .int .i64 fld, .int .i64 at_] 44)).setRow tg #[.iface 135 (.pointer (some a)), .int .i64 fld, .int .i64 at_] := by
  have c0 := callTypeOf
  have c1 := callVof
  have c2 := callVty
  have c3 := callVnil
  have c4 := callKind
  have c5 := callTel
  have c6 := callImp
  have c7 := callAsg
  have c8 := callVel
  have c9 := callSet
  have c10 := mtKind
  have c11 := mtElem
  have c12 := mtImp
  have c13 := mtAsg
  have c14 := noAsE
  have c15 := noAsF
  have c16 := noAsL
  have c17 := noUnwrapE
  have c18 := noUnwrapsE
  have c19 := hasUnwrapF
  have c20 := methodUnwrapF
  have c21 := hasUnwrapL
  have c22 := methodUnwrapL
  have c23 := isTypeOf
  have c24 := vof_pF
  have c25 := vty_pF
  have c26 := kind_pF
  have c27 := kind_F
  have c28 := tel_pF
  have c29 := imp_F
  have c30 := tof_F
  have c31 := asg_FF
  have c32 := asg_EF
  have c33 := vof_F
  have c34 := vof_pL
  have c35 := vty_pL
  have c36 := kind_pL
  have c37 := kind_L
  have c38 := tel_pL
  have c39 := imp_L
  have c40 := tof_L
  have c41 := asg_LL
  have c42 := asg_EL
  have c43 := vof_L
  have c44 := asg_FL
  have c45 := asg_LF
  have htl : tg < w.heap.size := (Array.getElem?_eq_some_iff.1 ht).1
  have n8 := vnil_pF ⟨w.heap.size, 0, none⟩ ⟨tg, 0, none⟩ ((w.alloc (.cells #[.pointer (some ⟨tg, 0, none⟩)] 54)).alloc (.cells #[.pointer (some ⟨14, 54, none⟩), .pointer (some ⟨w.heap.size, 0, none⟩), .int .u64 150] 71)) (by simp)
  have hg2 : ((w.alloc (.cells #[.pointer (some ⟨tg, 0, none⟩)] 54)).alloc (.cells #[.pointer (some ⟨14, 54, none⟩), .pointer (some ⟨w.heap.size, 0, none⟩), .int .u64 150] 71)).cell? ⟨6, 0, none⟩ = some (.iface 82 (.agg #[.pointer (some ⟨14, 33, none⟩)])) := by
    rw [World.cell?_alloc_lt _ _ ⟨6, 0, none⟩ (by simp <;> omega), World.cell?_alloc_lt _ _ ⟨6, 0, none⟩ hs]; exact hg
  have el := vel_pF ⟨w.heap.size, 0, none⟩ ⟨tg, 0, none⟩ (((w.alloc (.cells #[.pointer (some ⟨tg, 0, none⟩)] 54)).alloc (.cells #[.pointer (some ⟨14, 54, none⟩), .pointer (some ⟨w.heap.size, 0, none⟩), .int .u64 150] 71)).alloc (.cells #[.pointer (some ⟨14, 54, none⟩), .pointer (some ⟨w.heap.size, 0, none⟩), .int .u64 150] 71)) (by
    rw [World.cell?_alloc_lt _ _ ⟨w.heap.size, 0, none⟩ (by simp <;> omega), World.cell?_alloc_lt _ _ ⟨w.heap.size, 0, none⟩ (by simp <;> omega)]
    simp)
  have st := set_F tg (w.heap.size + 1 + 1 + 1) old #[.iface 135 (.pointer (some a)), .int .i64 fld, .int .i64 at_] ((((w.alloc (.cells #[.pointer (some ⟨tg, 0, none⟩)] 54)).alloc (.cells #[.pointer (some ⟨14, 54, none⟩), .pointer (some ⟨w.heap.size, 0, none⟩), .int .u64 150] 71)).alloc (.cells #[.pointer (some ⟨14, 54, none⟩), .pointer (some ⟨w.heap.size, 0, none⟩), .int .u64 150] 71)).alloc (.cells #[.iface 135 (.pointer (some a)), .int .i64 fld, .int .i64 at_] 44))
    (by
      have := heap_alloc_new (((w.alloc (.cells #[.pointer (some ⟨tg, 0, none⟩)] 54)).alloc (.cells #[.pointer (some ⟨14, 54, none⟩), .pointer (some ⟨w.heap.size, 0, none⟩), .int .u64 150] 71)).alloc (.cells #[.pointer (some ⟨14, 54, none⟩), .pointer (some ⟨w.heap.size, 0, none⟩), .int .u64 150] 71)) (.cells #[.iface 135 (.pointer (some a)), .int .i64 fld, .int .i64 at_] 44)
      simpa using this)
    (by
      rw [heap_alloc_old _ _ (h := by simp <;> omega), heap_alloc_old _ _ (h := by simp <;> omega), heap_alloc_old _ _ (h := by simp <;> omega), heap_alloc_old _ _ (h := htl)]
      exact ht) hz rfl (by simp [Value.oneCell'])
  clear hg hs ht hz htl
  go_enter Tryd.func21, Tryd.ntmps21
  go_wp2
  refine wp_loop_rounds 1 ?_
  rw [rounds_succ]
  go_wp2_with (first
    | (go_at_call 88; refine (unwF _ _ _ _).mono ?_; rintro e w' ⟨rfl, rfl⟩)
    | (go_at_call 90; refine (unwL _ _ _ _).mono ?_; rintro e w' ⟨rfl, rfl⟩))
  go_ret
  exact ⟨rfl, rfl⟩
set_option maxRecDepth 100000 in
set_option maxHeartbeats 8000000 in
theorem as_FL (a : Addr) (fld at_ : Int) (tg : Nat) (old : Array Value) (w : World) (hg : w.cell? ⟨6, 0, none⟩ = some (.iface 82 (.agg #[.pointer (some ⟨14, 33, none⟩)]))) (hs : 6 < w.heap.size) (ht : w.heap[tg]? = some (.cells old 50 (0, 0)))  :
    Calls Tryd.prog 21 #[.iface 44 (.agg #[.iface 135 (.pointer (some a)), .int .i64 fld, .int .i64 at_]), .iface 55 (.pointer (some ⟨tg, 0, none⟩))] w fun e w' => e = .returned (.bool false) ∧ w' = ((((w.alloc (.cells #[.pointer (some ⟨tg, 0, none⟩)] 55)).alloc (.cells #[.pointer (some ⟨14, 55, none⟩), .pointer (some ⟨w.heap.size, 0, none⟩), .int .u64 150] 71)).alloc (.cells #[.pointer (some ⟨14, 55, none⟩), .pointer (some ⟨w.heap.size, 0, none⟩), .int .u64 150] 71)).alloc (.cells #[.iface 135 (.pointer (some a)), .int .i64 fld, .int .i64 at_] 44)) := by
  have c0 := callTypeOf
  have c1 := callVof
  have c2 := callVty
  have c3 := callVnil
  have c4 := callKind
  have c5 := callTel
  have c6 := callImp
  have c7 := callAsg
  have c8 := callVel
  have c9 := callSet
  have c10 := mtKind
  have c11 := mtElem
  have c12 := mtImp
  have c13 := mtAsg
  have c14 := noAsE
  have c15 := noAsF
  have c16 := noAsL
  have c17 := noUnwrapE
  have c18 := noUnwrapsE
  have c19 := hasUnwrapF
  have c20 := methodUnwrapF
  have c21 := hasUnwrapL
  have c22 := methodUnwrapL
  have c23 := isTypeOf
  have c24 := vof_pF
  have c25 := vty_pF
  have c26 := kind_pF
  have c27 := kind_F
  have c28 := tel_pF
  have c29 := imp_F
  have c30 := tof_F
  have c31 := asg_FF
  have c32 := asg_EF
  have c33 := vof_F
  have c34 := vof_pL
  have c35 := vty_pL
  have c36 := kind_pL
  have c37 := kind_L
  have c38 := tel_pL
  have c39 := imp_L
  have c40 := tof_L
  have c41 := asg_LL
  have c42 := asg_EL
  have c43 := vof_L
  have c44 := asg_FL
  have c45 := asg_LF
  have htl : tg < w.heap.size := (Array.getElem?_eq_some_iff.1 ht).1
  have n8 := vnil_pL ⟨w.heap.size, 0, none⟩ ⟨tg, 0, none⟩ ((w.alloc (.cells #[.pointer (some ⟨tg, 0, none⟩)] 55)).alloc (.cells #[.pointer (some ⟨14, 55, none⟩), .pointer (some ⟨w.heap.size, 0, none⟩), .int .u64 150] 71)) (by simp)
  have hg2 : ((w.alloc (.cells #[.pointer (some ⟨tg, 0, none⟩)] 55)).alloc (.cells #[.pointer (some ⟨14, 55, none⟩), .pointer (some ⟨w.heap.size, 0, none⟩), .int .u64 150] 71)).cell? ⟨6, 0, none⟩ = some (.iface 82 (.agg #[.pointer (some ⟨14, 33, none⟩)])) := by
    rw [World.cell?_alloc_lt _ _ ⟨6, 0, none⟩ (by simp <;> omega), World.cell?_alloc_lt _ _ ⟨6, 0, none⟩ hs]; exact hg
  clear hg hs ht htl
  go_enter Tryd.func21, Tryd.ntmps21
  go_wp2
  refine wp_loop_rounds 2 ?_
  rw [rounds_succ]
  go_wp2_with (first
    | (go_at_call 88; refine (unwF _ _ _ _).mono ?_; rintro e w' ⟨rfl, rfl⟩)
    | (go_at_call 90; refine (unwL _ _ _ _).mono ?_; rintro e w' ⟨rfl, rfl⟩))
  rw [rounds_succ]
  go_wp2_with (first
    | (go_at_call 88; refine (unwF _ _ _ _).mono ?_; rintro e w' ⟨rfl, rfl⟩)
    | (go_at_call 90; refine (unwL _ _ _ _).mono ?_; rintro e w' ⟨rfl, rfl⟩))
  go_ret
  exact ⟨rfl, rfl⟩
set_option maxRecDepth 100000 in
set_option maxHeartbeats 8000000 in
theorem as_LF (a : Addr) (beg fld at_ : Int) (tg : Nat) (old : Array Value) (w : World) (hg : w.cell? ⟨6, 0, none⟩ = some (.iface 82 (.agg #[.pointer (some ⟨14, 33, none⟩)]))) (hs : 6 < w.heap.size) (ht : w.heap[tg]? = some (.cells old 44 (0, 0))) (hz : old.size = 3) :
    Calls Tryd.prog 21 #[.iface 50 (.agg #[.int .i64 beg, .iface 44 (.agg #[.iface 135 (.pointer (some a)), .int .i64 fld, .int .i64 at_])]), .iface 54 (.pointer (some ⟨tg, 0, none⟩))] w fun e w' => e = .returned (.bool true) ∧ w' = (((((w.alloc (.cells #[.pointer (some ⟨tg, 0, none⟩)] 54)).alloc (.cells #[.pointer (some ⟨14, 54, none⟩), .pointer (some ⟨w.heap.size, 0, none⟩), .int .u64 150] 71)).alloc (.cells #[.pointer (some ⟨14, 54, none⟩), .pointer (some ⟨w.heap.size, 0, none⟩), .int .u64 150] 71)).alloc (.cells #[.int .i64 beg, .iface 44 (.agg #[.iface 135 (.pointer (some a)), .int .i64 fld, .int .i64 at_])] 50)).alloc (.cells #[.iface 135 (.pointer (some a)), .int .i64 fld, .int .i64 at_] 44)).setRow tg #[.iface 135 (.pointer (some a)), .int .i64 fld, .int .i64 at_] := by
  have c0 := callTypeOf
  have c1 := callVof
  have c2 := callVty
  have c3 := callVnil
  have c4 := callKind
  have c5 := callTel
  have c6 := callImp
  have c7 := callAsg
  have c8 := callVel
  have c9 := callSet
  have c10 := mtKind
  have c11 := mtElem
  have c12 := mtImp
  have c13 := mtAsg
  have c14 := noAsE
  have c15 := noAsF
  have c16 := noAsL
  have c17 := noUnwrapE
  have c18 := noUnwrapsE
  have c19 := hasUnwrapF
  have c20 := methodUnwrapF
  have c21 := hasUnwrapL
  have c22 := methodUnwrapL
  have c23 := isTypeOf
  have c24 := vof_pF
  have c25 := vty_pF
  have c26 := kind_pF
  have c27 := kind_F
  have c28 := tel_pF
  have c29 := imp_F
  have c30 := tof_F
  have c31 := asg_FF
  have c32 := asg_EF
  have c33 := vof_F
  have c34 := vof_pL
  have c35 := vty_pL
  have c36 := kind_pL
  have c37 := kind_L
  have c38 := tel_pL
  have c39 := imp_L
  have c40 := tof_L
  have c41 := asg_LL
  have c42 := asg_EL
  have c43 := vof_L
  have c44 := asg_FL
  have c45 := asg_LF
  have htl : tg < w.heap.size := (Array.getElem?_eq_some_iff.1 ht).1
  have n8 := vnil_pF ⟨w.heap.size, 0, none⟩ ⟨tg, 0, none⟩ ((w.alloc (.cells #[.pointer (some ⟨tg, 0, none⟩)] 54)).alloc (.cells #[.pointer (some ⟨14, 54, none⟩), .pointer (some ⟨w.heap.size, 0, none⟩), .int .u64 150] 71)) (by simp)
  have hg2 : ((w.alloc (.cells #[.pointer (some ⟨tg, 0, none⟩)] 54)).alloc (.cells #[.pointer (some ⟨14, 54, none⟩), .pointer (some ⟨w.heap.size, 0, none⟩), .int .u64 150] 71)).cell? ⟨6, 0, none⟩ = some (.iface 82 (.agg #[.pointer (some ⟨14, 33, none⟩)])) := by
    rw [World.cell?_alloc_lt _ _ ⟨6, 0, none⟩ (by simp <;> omega), World.cell?_alloc_lt _ _ ⟨6, 0, none⟩ hs]; exact hg
  have el := vel_pF ⟨w.heap.size, 0, none⟩ ⟨tg, 0, none⟩ ((((w.alloc (.cells #[.pointer (some ⟨tg, 0, none⟩)] 54)).alloc (.cells #[.pointer (some ⟨14, 54, none⟩), .pointer (some ⟨w.heap.size, 0, none⟩), .int .u64 150] 71)).alloc (.cells #[.pointer (some ⟨14, 54, none⟩), .pointer (some ⟨w.heap.size, 0, none⟩), .int .u64 150] 71)).alloc (.cells #[.int .i64 beg, .iface 44 (.agg #[.iface 135 (.pointer (some a)), .int .i64 fld, .int .i64 at_])] 50)) (by
    rw [World.cell?_alloc_lt _ _ ⟨w.heap.size, 0, none⟩ (by simp <;> omega), World.cell?_alloc_lt _ _ ⟨w.heap.size, 0, none⟩ (by simp <;> omega), World.cell?_alloc_lt _ _ ⟨w.heap.size, 0, none⟩ (by simp <;> omega)]
    simp)
  have st := set_F tg (w.heap.size + 1 + 1 + 1 + 1) old #[.iface 135 (.pointer (some a)), .int .i64 fld, .int .i64 at_] (((((w.alloc (.cells #[.pointer (some ⟨tg, 0, none⟩)] 54)).alloc (.cells #[.pointer (some ⟨14, 54, none⟩), .pointer (some ⟨w.heap.size, 0, none⟩), .int .u64 150] 71)).alloc (.cells #[.pointer (some ⟨14, 54, none⟩), .pointer (some ⟨w.heap.size, 0, none⟩), .int .u64 150] 71)).alloc (.cells #[.int .i64 beg, .iface 44 (.agg #[.iface 135 (.pointer (some a)), .int .i64 fld, .int .i64 at_])] 50)).alloc (.cells #[.iface 135 (.pointer (some a)), .int .i64 fld, .int .i64 at_] 44))
    (by
      have := heap_alloc_new ((((w.alloc (.cells #[.pointer (some ⟨tg, 0, none⟩)] 54)).alloc (.cells #[.pointer (some ⟨14, 54, none⟩), .pointer (some ⟨w.heap.size, 0, none⟩), .int .u64 150] 71)).alloc (.cells #[.pointer (some ⟨14, 54, none⟩), .pointer (some ⟨w.heap.size, 0, none⟩), .int .u64 150] 71)).alloc (.cells #[.int .i64 beg, .iface 44 (.agg #[.iface 135 (.pointer (some a)), .int .i64 fld, .int .i64 at_])] 50)) (.cells #[.iface 135 (.pointer (some a)), .int .i64 fld, .int .i64 at_] 44)
      simpa using this)
    (by
      rw [heap_alloc_old _ _ (h := by simp <;> omega), heap_alloc_old _ _ (h := by simp <;> omega), heap_alloc_old _ _ (h := by simp <;> omega), heap_alloc_old _ _ (h := by simp <;> omega), heap_alloc_old _ _ (h := htl)]
      exact ht) hz rfl (by simp [Value.oneCell'])
  clear hg hs ht hz htl
  go_enter Tryd.func21, Tryd.ntmps21
  go_wp2
  refine wp_loop_rounds 2 ?_
  rw [rounds_succ]
  go_wp2_with (first
    | (go_at_call 88; refine (unwF _ _ _ _).mono ?_; rintro e w' ⟨rfl, rfl⟩)
    | (go_at_call 90; refine (unwL _ _ _ _).mono ?_; rintro e w' ⟨rfl, rfl⟩))
  rw [rounds_succ]
  go_wp2_with (first
    | (go_at_call 88; refine (unwF _ _ _ _).mono ?_; rintro e w' ⟨rfl, rfl⟩)
    | (go_at_call 90; refine (unwL _ _ _ _).mono ?_; rintro e w' ⟨rfl, rfl⟩))
  go_ret
  exact ⟨rfl, rfl⟩
set_option maxRecDepth 100000 in
set_option maxHeartbeats 8000000 in
theorem as_LL (a : Addr) (beg fld at_ : Int) (tg : Nat) (old : Array Value) (w : World) (hg : w.cell? ⟨6, 0, none⟩ = some (.iface 82 (.agg #[.pointer (some ⟨14, 33, none⟩)]))) (hs : 6 < w.heap.size) (ht : w.heap[tg]? = some (.cells old 50 (0, 0))) (hz : old.size = 2) :
    Calls Tryd.prog 21 #[.iface 50 (.agg #[.int .i64 beg, .iface 44 (.agg #[.iface 135 (.pointer (some a)), .int .i64 fld, .int .i64 at_])]), .iface 55 (.pointer (some ⟨tg, 0, none⟩))] w fun e w' => e = .returned (.bool true) ∧ w' = ((((w.alloc (.cells #[.pointer (some ⟨tg, 0, none⟩)] 55)).alloc (.cells #[.pointer (some ⟨14, 55, none⟩), .pointer (some ⟨w.heap.size, 0, none⟩), .int .u64 150] 71)).alloc (.cells #[.pointer (some ⟨14, 55, none⟩), .pointer (some ⟨w.heap.size, 0, none⟩), .int .u64 150] 71)).alloc (.cells #[.int .i64 beg, .iface 44 (.agg #[.iface 135 (.pointer (some a)), .int .i64 fld, .int .i64 at_])] 50)).setRow tg #[.int .i64 beg, .iface 44 (.agg #[.iface 135 (.pointer (some a)), .int .i64 fld, .int .i64 at_])] := by
  have c0 := callTypeOf
  have c1 := callVof
  have c2 := callVty
  have c3 := callVnil
  have c4 := callKind
  have c5 := callTel
  have c6 := callImp
  have c7 := callAsg
  have c8 := callVel
  have c9 := callSet
  have c10 := mtKind
  have c11 := mtElem
  have c12 := mtImp
  have c13 := mtAsg
  have c14 := noAsE
  have c15 := noAsF
  have c16 := noAsL
  have c17 := noUnwrapE
  have c18 := noUnwrapsE
  have c19 := hasUnwrapF
  have c20 := methodUnwrapF
  have c21 := hasUnwrapL
  have c22 := methodUnwrapL
  have c23 := isTypeOf
  have c24 := vof_pF
  have c25 := vty_pF
  have c26 := kind_pF
  have c27 := kind_F
  have c28 := tel_pF
  have c29 := imp_F
  have c30 := tof_F
  have c31 := asg_FF
  have c32 := asg_EF
  have c33 := vof_F
  have c34 := vof_pL
  have c35 := vty_pL
  have c36 := kind_pL
  have c37 := kind_L
  have c38 := tel_pL
  have c39 := imp_L
  have c40 := tof_L
  have c41 := asg_LL
  have c42 := asg_EL
  have c43 := vof_L
  have c44 := asg_FL
  have c45 := asg_LF
  have htl : tg < w.heap.size := (Array.getElem?_eq_some_iff.1 ht).1
  have n8 := vnil_pL ⟨w.heap.size, 0, none⟩ ⟨tg, 0, none⟩ ((w.alloc (.cells #[.pointer (some ⟨tg, 0, none⟩)] 55)).alloc (.cells #[.pointer (some ⟨14, 55, none⟩), .pointer (some ⟨w.heap.size, 0, none⟩), .int .u64 150] 71)) (by simp)
  have hg2 : ((w.alloc (.cells #[.pointer (some ⟨tg, 0, none⟩)] 55)).alloc (.cells #[.pointer (some ⟨14, 55, none⟩), .pointer (some ⟨w.heap.size, 0, none⟩), .int .u64 150] 71)).cell? ⟨6, 0, none⟩ = some (.iface 82 (.agg #[.pointer (some ⟨14, 33, none⟩)])) := by
    rw [World.cell?_alloc_lt _ _ ⟨6, 0, none⟩ (by simp <;> omega), World.cell?_alloc_lt _ _ ⟨6, 0, none⟩ hs]; exact hg
  have el := vel_pL ⟨w.heap.size, 0, none⟩ ⟨tg, 0, none⟩ (((w.alloc (.cells #[.pointer (some ⟨tg, 0, none⟩)] 55)).alloc (.cells #[.pointer (some ⟨14, 55, none⟩), .pointer (some ⟨w.heap.size, 0, none⟩), .int .u64 150] 71)).alloc (.cells #[.pointer (some ⟨14, 55, none⟩), .pointer (some ⟨w.heap.size, 0, none⟩), .int .u64 150] 71)) (by
    rw [World.cell?_alloc_lt _ _ ⟨w.heap.size, 0, none⟩ (by simp <;> omega), World.cell?_alloc_lt _ _ ⟨w.heap.size, 0, none⟩ (by simp <;> omega)]
    simp)
  have st := set_L tg (w.heap.size + 1 + 1 + 1) old #[.int .i64 beg, .iface 44 (.agg #[.iface 135 (.pointer (some a)), .int .i64 fld, .int .i64 at_])] ((((w.alloc (.cells #[.pointer (some ⟨tg, 0, none⟩)] 55)).alloc (.cells #[.pointer (some ⟨14, 55, none⟩), .pointer (some ⟨w.heap.size, 0, none⟩), .int .u64 150] 71)).alloc (.cells #[.pointer (some ⟨14, 55, none⟩), .pointer (some ⟨w.heap.size, 0, none⟩), .int .u64 150] 71)).alloc (.cells #[.int .i64 beg, .iface 44 (.agg #[.iface 135 (.pointer (some a)), .int .i64 fld, .int .i64 at_])] 50))
    (by
      have := heap_alloc_new (((w.alloc (.cells #[.pointer (some ⟨tg, 0, none⟩)] 55)).alloc (.cells #[.pointer (some ⟨14, 55, none⟩), .pointer (some ⟨w.heap.size, 0, none⟩), .int .u64 150] 71)).alloc (.cells #[.pointer (some ⟨14, 55, none⟩), .pointer (some ⟨w.heap.size, 0, none⟩), .int .u64 150] 71)) (.cells #[.int .i64 beg, .iface 44 (.agg #[.iface 135 (.pointer (some a)), .int .i64 fld, .int .i64 at_])] 50)
      simpa using this)
    (by
      rw [heap_alloc_old _ _ (h := by simp <;> omega), heap_alloc_old _ _ (h := by simp <;> omega), heap_alloc_old _ _ (h := by simp <;> omega), heap_alloc_old _ _ (h := htl)]
      exact ht) hz rfl (by simp [Value.oneCell'])
  clear hg hs ht hz htl
  go_enter Tryd.func21, Tryd.ntmps21
  go_wp2
  refine wp_loop_rounds 1 ?_
  rw [rounds_succ]
  go_wp2_with (first
    | (go_at_call 88; refine (unwF _ _ _ _).mono ?_; rintro e w' ⟨rfl, rfl⟩)
    | (go_at_call 90; refine (unwL _ _ _ _).mono ?_; rintro e w' ⟨rfl, rfl⟩))
  go_ret
  exact ⟨rfl, rfl⟩
end Go.Proofs.YtgimkeklnpppjaaDoor
