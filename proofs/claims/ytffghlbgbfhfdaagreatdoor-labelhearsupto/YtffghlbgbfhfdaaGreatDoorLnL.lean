/- Several texts in one: LnW, LnY, LnZ. -/
import Derived.Test.YtffghlbgbfhfdaaGreatDoorLnJ
import Derived.Test.YtffghlbgbfhfdaaGreatDoorPbJ
import Derived.Shelf.Strconv.AtoiAll
import Derived.Test.YtffghlbgbfhfdaaGreatDoorLnK
/- readRefs of any text: it ends, and what it has laid down lies well. -/
namespace Go.Proofs.YtffghlbgbfhfdaaGreatDoor
open Go.RowKit Go.Shelf Go.Sort
theorem pa_weak (s : ByteArray) : ∃ (x : Lb) (E F : Nat), Byt x.h ∧ three (paV s) = .tuple #[.agg (lab x.h x.s), .int .i64 (E : Int), .int .i64 (F : Int)] := by
  have z : ∃ (x : Lb), Byt x.h ∧ none25 = lab x.h x.s := ⟨⟨z20, ⟨#[]⟩, rfl⟩, z20_byt, rfl⟩
  have key : ∃ (x : Lb), Byt x.h ∧ (paV s).1 = lab x.h x.s := by
    unfold paV
    split
    · exact z
    · split
      · exact z
      · split
        · exact z
        · rename_i h
          rcases pbV_form (s.extract 13 s.size) with ⟨-, hh, nm, h1, h2, h3, -⟩ | ⟨h1, -, -⟩
          · exact ⟨⟨hh, nm, h1⟩, h2, h3⟩
          · exact absurd h1 h
  obtain ⟨x, hx, he⟩ := key
  exact ⟨x, _, _, hx, by unfold three; rw [he]⟩
theorem parse_weak (s : ByteArray) (w : World) (ht : Tx w) : ∃ (x : Lb) (E F : Nat), Byt x.h ∧ Calls Tryz.prog 49 #[.string s] w fun e w' => e = .returned (.tuple #[.agg (lab x.h x.s), .int .i64 (E : Int), .int .i64 (F : Int)]) ∧ Below w.heap.size w w' := by
  obtain ⟨x, E, F, hx, h⟩ := pa_weak s
  refine ⟨x, E, F, hx, ?_⟩
  rw [← h]
  exact paC_any s w ht
theorem cut_weak (l : List UInt8) : ∃ (a r : ByteArray) (b : Bool), cutV l = .tuple #[.string a, .string r, .bool b] ∧ a.size ≤ l.length ∧ r.size ≤ l.length ∧ (b = true → r.size < l.length) := by
  unfold cutV
  split
  · rename_i h
    refine ⟨_, _, _, rfl, ?_, ?_, fun _ => ?_⟩
    · rw [ofL_size]; omega
    · rw [ofL_size, List.length_drop]; omega
    · rw [ofL_size, List.length_drop]; omega
  · exact ⟨_, _, _, rfl, by rw [ofL_size]; exact Nat.le_refl _, Nat.zero_le _, (fun h => by cases h)⟩
def szM (rv bv : Value) : Nat := match bv with
  | .bool true => szOf rv + 1
  | _ => 0
/-- What readRefs has laid down. -/
def RwP (k : Int) (o : ByteArray) (ix : Int) (sm : List Nat) (nm : ByteArray) (g : Nat) (w : World) (e : Ending) (w' : World) : Prop :=
  ∃ (ret sf : Bool) (v : Value) (A : List Lb), e = .returned (.bool ret) ∧ w'.heap[g]? = some (.cells (fgA k v sf o ix sm nm) 26 (0, 0)) ∧ w'.ownsRow w.heap.size 51 21 v A.length (cells A) ∧ A.length ≤ 256 ∧ (∀ x ∈ A, Byt x.h) ∧ Touch g w w'
attribute [local go_sem ↓] to25s to25l toBs1 toAp
set_option maxRecDepth 100000 in
set_option maxHeartbeats 3200000 in
theorem refs_weak (r : ByteArray) (b : Bool) (hrs : r.size ≤ 1099511627776) (k : Int) (o : ByteArray) (ix : Int) (sm : List Nat) (nm : ByteArray) (g : Nat) (w : World) (hx : Tx w) (hg : w.heap[g]? = some (.cells (fgA k (.slice none 0 0) false o ix sm nm) 26 (0, 0))) (hg5 : 4 < g) :
    Calls Tryz.prog 31 #[.pointer (some ⟨g, 0, none⟩), .string r, .bool b] w (RwP k o ix sm nm g w) := by
  have R0 : Rr k o ix sm nm g w (.slice none 0 0) [] w := ⟨hg, by rw [cells_nil]; exact World.ownsRow_nil _ _ _ _, hx, (Array.getElem?_eq_some_iff.1 hg).1, Touch.refl _ _⟩
  have HR0 : Hid _ := R0
  have HZ : Hid (r.size ≤ 1099511627776) := hrs
  have HG5 : Hid (4 < g) := hg5
  clear hx hg R0 hrs hg5
  go_enter Tryz.func31, Tryz.ntmps31
  go_wp2_with fail
  go_loopw [1, 2] (fun rv bv wr => ∃ (r : ByteArray) (b : Bool) (v : Value) (A : List Lb), rv = .string r ∧ bv = .bool b ∧ Hid (r.size ≤ 1099511627776) ∧ Hid (Rr k o ix sm nm g w v A wr ∧ A.length ≤ 256 ∧ ∀ x ∈ A, Byt x.h)) (fun rv bv _ => szM rv bv)
  case atStart => exact ⟨r, b, .slice none 0 0, [], rfl, rfl, HZ, ⟨HR0.out, by simp, fun x hx => by cases hx⟩⟩
  case round =>
    clear HZ HR0
    obtain ⟨r, b, v, A, rfl, rfl, HZ, HS0⟩ := hrel
    cases b with
    | false =>
      have HE : Hid (∃ (sf : Bool) (v : Value) (A : List Lb), wr.heap[g]? = some (.cells (fgA k v sf o ix sm nm) 26 (0, 0)) ∧ wr.ownsRow w.heap.size 51 21 v A.length (cells A) ∧ A.length ≤ 256 ∧ (∀ x ∈ A, Byt x.h) ∧ Touch g w wr) := ⟨false, v, A, HS0.out.1.row, HS0.out.1.own, HS0.out.2.1, HS0.out.2.2, HS0.out.1.tch⟩
      clear HS0
      go_wp2
      go_ret
      obtain ⟨sf, v, A, h⟩ := HE.out
      exact ⟨true, sf, v, A, rfl, h⟩
    | true =>
      have HS : Hid (Rr k o ix sm nm g w v A wr) := HS0.out.1
      have HL : Hid (A.length ≤ 256 ∧ ∀ x ∈ A, Byt x.h) := HS0.out.2
      obtain ⟨a, r', b', hc, ha, hr', hlt⟩ := cut_weak r.data.toList
      have hrl : r.data.toList.length = r.size := Array.length_toList
      rw [hrl] at ha hr' hlt
      have HLT : Hid (b' = true → r'.size < r.size) := hlt
      have HZ2 : Hid (r'.size ≤ 1099511627776) := by have h1 := HZ.out; show _ ≤ _; omega
      have CC : Hid _ := cut_any r HZ.out wr
      rw [hc] at CC
      clear hc ha hr' hlt hrl HS0
      go_wp2_with fail
      refine Calls.mono CC.out ?_
      rintro e W1 ⟨rfl, b1⟩
      have HS1 : Hid (Rr k o ix sm nm g w v A W1) := HS.out.below b1
      obtain ⟨x, E, F, xb, CP0⟩ := parse_weak a W1 HS1.out.tx
      have HXB : Hid (Byt x.h) := xb
      have CP : Hid _ := CP0
      clear CC b1 HS CP0 xb
      by_cases hsw : (a.toList == [115, 101, 108, 102]) = true ∧ b' = false
      · obtain ⟨hs1, rfl⟩ := hsw
        obtain ⟨-, -, q2, -, -⟩ := fgA_cells HS1.out.row
        have f2 : W1.frozen? ⟨g, 2, none⟩ = false := frozen_of_row _ _ _ _ _ HS1.out.row
        have HE : Hid (∃ (sf : Bool) (v : Value) (A : List Lb), (W1.setCell ⟨g, 2, none⟩ (.bool true)).heap[g]? = some (.cells (fgA k v sf o ix sm nm) 26 (0, 0)) ∧ (W1.setCell ⟨g, 2, none⟩ (.bool true)).ownsRow w.heap.size 51 21 v A.length (cells A) ∧ A.length ≤ 256 ∧ (∀ x ∈ A, Byt x.h) ∧ Touch g w (W1.setCell ⟨g, 2, none⟩ (.bool true))) :=
          ⟨true, v, A, (set_fgA HS1.out.row).2.2.1 true, own_far HS1.out.own HS1.out.gl, HL.out.1, HL.out.2, HS1.out.tch.setCell _⟩
        clear HS1 CP HL
        go_wp2
        go_ret
        obtain ⟨sf, v, A, h⟩ := HE.out
        exact ⟨true, sf, v, A, rfl, h⟩
      · have HNS : Hid (¬ ((a.toList == [115, 101, 108, 102]) = true ∧ b' = false)) := hsw
        obtain ⟨oo, cc, hv, -, -⟩ := (own_Ls HS1.out.own).form
        have hcase : (a.toList == [115, 101, 108, 102]) = false ∨ ((a.toList == [115, 101, 108, 102]) = true ∧ b' = true) := by
          cases h1 : (a.toList == [115, 101, 108, 102]) with
          | false => exact .inl rfl
          | true => cases h2 : b' with
            | false => exact absurd ⟨h1, h2⟩ hsw
            | true => exact .inr ⟨rfl, rfl⟩
        clear hsw
        obtain ⟨m, hm⟩ : ∃ m, m = A.length := ⟨_, rfl⟩
        rw [← hm] at hv
        rcases hcase with hn | ⟨hn, rfl⟩
        · go_wp2_with fail
          refine Calls.mono CP.out ?_
          rintro e W2 ⟨rfl, b2⟩
          have HS2 : Hid (Rr k o ix sm nm g w v A W2) := HS1.out.below b2
          obtain ⟨W3, s3, r3, b3⟩ := layL W2 x.h x.s x.hl
          have HS3 : Hid (Rr k o ix sm nm g w v A W3) := HS2.out.below b3
          obtain ⟨q0, q1, q2, q3, q4⟩ := fgA_cells HS3.out.row
          have HE : Hid (∃ (sf : Bool) (v : Value) (A : List Lb), W3.heap[g]? = some (.cells (fgA k v sf o ix sm nm) 26 (0, 0)) ∧ W3.ownsRow w.heap.size 51 21 v A.length (cells A) ∧ A.length ≤ 256 ∧ (∀ x ∈ A, Byt x.h) ∧ Touch g w W3) := ⟨false, v, A, HS3.out.row, HS3.out.own, HL.out.1, HL.out.2, HS3.out.tch⟩
          by_cases hE : (E : Int) = 0
          case neg =>
            clear CP b2 HS1 HS2 HS3 r3 b3 HL
            go_wp2
            go_ret
            obtain ⟨sf, v, A, h⟩ := HE.out
            exact ⟨false, sf, v, A, rfl, h⟩
          obtain rfl : E = 0 := by omega
          by_cases h256 : m = 256
          case pos =>
            subst hv
            subst h256
            clear CP b2 HS1 HS2 HS3 r3 b3 HL
            go_wp2
            go_ret
            obtain ⟨sf, v, A, h⟩ := HE.out
            exact ⟨false, sf, v, A, rfl, h⟩
          have HS4 : Hid (Rr k o ix sm nm g w v A W3.drew) := HS3.out.below ⟨rfl, rfl, rfl, Nat.le_refl _, fun _ _ => rfl⟩
          have l3 := run_loadR25 W3.drew W2.heap.size x.h x.s r3 x.hl
          have z3 : w.heap.size ≤ W3.drew.heap.size := HS3.out.tch.size
          obtain ⟨u, W4, a1, a2, o4, b4⟩ := step_one HS4.out.own z3 (by have := HL.out.1; omega) x
          have hgl : g < W3.heap.size := (Array.getElem?_eq_some_iff.1 HS3.out.row).1
          have q1' : (W3.drew.alloc (.cells (lab x.h x.s) 51)).cell? ⟨g, 1, none⟩ = some v := (cell_al W3.drew g 1 hgl _).trans q1
          have row4 : W4.heap[g]? = some (.cells (fgA k v false o ix sm nm) 26 (0, 0)) := (b4.block g HS3.out.gl).trans HS3.out.row
          have f4 : W4.frozen? ⟨g, 1, none⟩ = false := frozen_of_row _ _ _ _ _ row4
          have c4 : W4.cell? ⟨g, 1, none⟩ = some v := (fgA_cells row4).2.1
          have lm : (A ++ [x]).length = A.length + 1 := by rw [List.length_append]; rfl
          have ROW5 : Hid (Rr k o ix sm nm g w u (A ++ [x]) (W4.setCell ⟨g, 1, none⟩ u)) := by
            have gl := HS3.out.gl
            have g5 := HG5.out
            have tx4 : Tx W4 := HS4.out.tx.below b4 (by omega)
            refine ⟨(set_fgA row4).2.1 u, ?_, tx4.touch ((Touch.refl g W4).setCell u) g5, gl, Touch.setCell ⟨b4.os.trans HS4.out.tch.os, b4.tape.trans HS4.out.tch.tape, b4.output.trans HS4.out.tch.output, Nat.le_trans HS4.out.tch.size b4.size, fun j hj hne => (b4.block j hj).trans (HS4.out.tch.block j hj hne)⟩ u⟩
            rw [lm]
            exact own_far o4 gl
          have HL5 : Hid ((A ++ [x]).length ≤ 256 ∧ ∀ y ∈ A ++ [x], Byt y.h) := by
            have h1 := HL.out.1
            refine ⟨by omega, fun y hy => ?_⟩
            rcases List.mem_append.1 hy with h | h
            · exact HL.out.2 y h
            · rw [List.mem_singleton.1 h]; exact HXB.out
          subst hv
          obtain ⟨o3, c3, hu, -, -⟩ := (own_Ls o4).form
          rw [lm, ← hm] at hu
          subst hu
          have a2' : (apL 22 #[.slice oo m cc, .slice (some ⟨W3.heap.size, 0, none⟩) 1 1]).run Tryz.prog (W3.alloc (.cells (lab x.h x.s) 51)).drew = .ok (.slice o3 (m + 1) c3) W4 := a2
          have h256' : ¬ ((m : Int) = 256) := by omega
          clear CP b2 HS1 HS2 HS3 HS4 r3 b3 q0 q2 q3 q4 o4 row4 z3 a2 h256 lm hm
          go_wp2_with fail
          go_region
          clear a1 a2' l3 s3 q1 q1' c4 f4
          go_wp2
          exact ⟨⟨r', b', _, A ++ [x], rfl, rfl, HZ2, ⟨ROW5.out, HL5.out⟩⟩, by
            have hl := HLT.out
            cases b'
            · show 0 < r.size + 1; omega
            · have := hl rfl; show r'.size + 1 < r.size + 1; omega⟩
        · go_wp2_with fail
          refine Calls.mono CP.out ?_
          rintro e W2 ⟨rfl, b2⟩
          have HS2 : Hid (Rr k o ix sm nm g w v A W2) := HS1.out.below b2
          obtain ⟨W3, s3, r3, b3⟩ := layL W2 x.h x.s x.hl
          have HS3 : Hid (Rr k o ix sm nm g w v A W3) := HS2.out.below b3
          obtain ⟨q0, q1, q2, q3, q4⟩ := fgA_cells HS3.out.row
          have HE : Hid (∃ (sf : Bool) (v : Value) (A : List Lb), W3.heap[g]? = some (.cells (fgA k v sf o ix sm nm) 26 (0, 0)) ∧ W3.ownsRow w.heap.size 51 21 v A.length (cells A) ∧ A.length ≤ 256 ∧ (∀ x ∈ A, Byt x.h) ∧ Touch g w W3) := ⟨false, v, A, HS3.out.row, HS3.out.own, HL.out.1, HL.out.2, HS3.out.tch⟩
          by_cases hE : (E : Int) = 0
          case neg =>
            clear CP b2 HS1 HS2 HS3 r3 b3 HL
            go_wp2
            go_ret
            obtain ⟨sf, v, A, h⟩ := HE.out
            exact ⟨false, sf, v, A, rfl, h⟩
          obtain rfl : E = 0 := by omega
          by_cases h256 : m = 256
          case pos =>
            subst hv
            subst h256
            clear CP b2 HS1 HS2 HS3 r3 b3 HL
            go_wp2
            go_ret
            obtain ⟨sf, v, A, h⟩ := HE.out
            exact ⟨false, sf, v, A, rfl, h⟩
          have HS4 : Hid (Rr k o ix sm nm g w v A W3.drew) := HS3.out.below ⟨rfl, rfl, rfl, Nat.le_refl _, fun _ _ => rfl⟩
          have l3 := run_loadR25 W3.drew W2.heap.size x.h x.s r3 x.hl
          have z3 : w.heap.size ≤ W3.drew.heap.size := HS3.out.tch.size
          obtain ⟨u, W4, a1, a2, o4, b4⟩ := step_one HS4.out.own z3 (by have := HL.out.1; omega) x
          have hgl : g < W3.heap.size := (Array.getElem?_eq_some_iff.1 HS3.out.row).1
          have q1' : (W3.drew.alloc (.cells (lab x.h x.s) 51)).cell? ⟨g, 1, none⟩ = some v := (cell_al W3.drew g 1 hgl _).trans q1
          have row4 : W4.heap[g]? = some (.cells (fgA k v false o ix sm nm) 26 (0, 0)) := (b4.block g HS3.out.gl).trans HS3.out.row
          have f4 : W4.frozen? ⟨g, 1, none⟩ = false := frozen_of_row _ _ _ _ _ row4
          have c4 : W4.cell? ⟨g, 1, none⟩ = some v := (fgA_cells row4).2.1
          have lm : (A ++ [x]).length = A.length + 1 := by rw [List.length_append]; rfl
          have ROW5 : Hid (Rr k o ix sm nm g w u (A ++ [x]) (W4.setCell ⟨g, 1, none⟩ u)) := by
            have gl := HS3.out.gl
            have g5 := HG5.out
            have tx4 : Tx W4 := HS4.out.tx.below b4 (by omega)
            refine ⟨(set_fgA row4).2.1 u, ?_, tx4.touch ((Touch.refl g W4).setCell u) g5, gl, Touch.setCell ⟨b4.os.trans HS4.out.tch.os, b4.tape.trans HS4.out.tch.tape, b4.output.trans HS4.out.tch.output, Nat.le_trans HS4.out.tch.size b4.size, fun j hj hne => (b4.block j hj).trans (HS4.out.tch.block j hj hne)⟩ u⟩
            rw [lm]
            exact own_far o4 gl
          have HL5 : Hid ((A ++ [x]).length ≤ 256 ∧ ∀ y ∈ A ++ [x], Byt y.h) := by
            have h1 := HL.out.1
            refine ⟨by omega, fun y hy => ?_⟩
            rcases List.mem_append.1 hy with h | h
            · exact HL.out.2 y h
            · rw [List.mem_singleton.1 h]; exact HXB.out
          subst hv
          obtain ⟨o3, c3, hu, -, -⟩ := (own_Ls o4).form
          rw [lm, ← hm] at hu
          subst hu
          have a2' : (apL 22 #[.slice oo m cc, .slice (some ⟨W3.heap.size, 0, none⟩) 1 1]).run Tryz.prog (W3.alloc (.cells (lab x.h x.s) 51)).drew = .ok (.slice o3 (m + 1) c3) W4 := a2
          have h256' : ¬ ((m : Int) = 256) := by omega
          clear CP b2 HS1 HS2 HS3 HS4 r3 b3 q0 q2 q3 q4 o4 row4 z3 a2 h256 lm hm
          go_wp2_with fail
          go_region
          clear a1 a2' l3 s3 q1 q1' c4 f4
          go_wp2
          exact ⟨⟨r', true, _, A ++ [x], rfl, rfl, HZ2, ⟨ROW5.out, HL5.out⟩⟩, by
            have hl := HLT.out
            have := hl (by trivial); show r'.size + 1 < r.size + 1; omega⟩
end Go.Proofs.YtffghlbgbfhfdaaGreatDoor

/- readHead of any text. -/
namespace Go.Proofs.YtffghlbgbfhfdaaGreatDoor
open Go.RowKit Go.Shelf Go.Sort
shelf_lay LaysC.n172 Nm 172 at Tryz as Tryz.aaL
/-- The errors of strconv lie. -/
structure Te (w : World) : Prop where
  s : ∃ te pe, w.cell? ⟨4, 0, none⟩ = some (.iface te pe)
  r : ∃ te pe, w.cell? ⟨5, 0, none⟩ = some (.iface te pe)
theorem Te.keep {w w' : World} (h : Te w) (hs : w'.heap[4]? = w.heap[4]?) (hr : w'.heap[5]? = w.heap[5]?) : Te w' :=
  ⟨by obtain ⟨a, b, h⟩ := h.s; exact ⟨a, b, (World.cell?_of_block (w := w) hs).trans h⟩, by obtain ⟨a, b, h⟩ := h.r; exact ⟨a, b, (World.cell?_of_block (w := w) hr).trans h⟩⟩
theorem atoi_weak (s : ByteArray) (hs : s.size ≤ 281474976710656) (w : World) (h : Te w) : Calls Tryz.prog 32 #[.string s] w fun e w' => (∃ (n : Int) (ev : Value), e = .returned (.tuple #[.int .i64 n, ev]) ∧ (-9223372036854775808 ≤ n ∧ n ≤ 9223372036854775807) ∧ (ev = .nilIface ∨ ∃ t p, ev = .iface t p)) ∧ Below w.heap.size w w' := by
  cases ha : Lib.atoiAll s.data.toList with
  | ok v =>
    refine (Any.strconv_Atoi_ok Tryz.aaL s (by omega) v ha w).mono ?_
    rintro e w' ⟨rfl, h1⟩
    refine ⟨⟨v, _, rfl, Lib.atoiAll_bounds ha, .inl rfl⟩, ?_⟩
    rcases h1 with rfl | ⟨t, rfl⟩
    · exact Below.refl _ _
    · exact Lib.bytesWorld_below _ _ _
  | «syntax» =>
    obtain ⟨te, pe, hc⟩ := h.s
    refine (Any.strconv_Atoi_syntax Tryz.aaL s hs ha _ w hc (.inr ⟨te, pe, rfl⟩)).mono ?_
    rintro e w' ⟨N, rfl, -, -, hb⟩
    exact ⟨⟨0, _, rfl, by omega, .inr ⟨_, _, rfl⟩⟩, hb⟩
  | range =>
    obtain ⟨te, pe, hc⟩ := h.r
    refine (Any.strconv_Atoi_range Tryz.aaL s hs ha _ w hc (.inr ⟨te, pe, rfl⟩)).mono ?_
    rintro e w' ⟨N, rfl, -, -, hb⟩
    exact ⟨⟨Lib.atoiSat s.data.toList, _, rfl, by unfold Lib.atoiSat; split <;> omega, .inr ⟨_, _, rfl⟩⟩, hb⟩
/-- What readHead has laid down. -/
def HwP (sm : List Nat) (nm : ByteArray) (g : Nat) (w : World) (e : Ending) (w' : World) : Prop :=
  ∃ (ret : Bool) (k : Int) (v : Value) (sf : Bool) (o : ByteArray) (ix : Int) (A : List Lb), e = .returned (.bool ret) ∧ w'.heap[g]? = some (.cells (fgA k v sf o ix sm nm) 26 (0, 0)) ∧ w'.ownsRow w.heap.size 51 21 v A.length (cells A) ∧ A.length ≤ 256 ∧ (∀ x ∈ A, Byt x.h) ∧ (0 ≤ k ∧ k ≤ 4) ∧ (-9223372036854775808 ≤ ix ∧ ix ≤ 9223372036854775807) ∧ Touch g w w'
set_option maxRecDepth 100000 in
set_option maxHeartbeats 3200000 in
theorem head_weak (s : ByteArray) (hz : s.size ≤ 1099511627776) (sm : List Nat) (nm : ByteArray) (g : Nat) (w : World) (hk : Tk w) (hx : Tx w) (he : Te w) (hg5 : 8 < g) (hg : w.heap[g]? = some (.cells (fgA 0 (.slice none 0 0) false ⟨#[]⟩ 0 sm nm) 26 (0, 0))) :
    Calls Tryz.prog 14 #[.pointer (some ⟨g, 0, none⟩), .string s] w (HwP sm nm g w) := by
  obtain ⟨a, r, b, hc, ha, hr, -⟩ := cut_weak s.data.toList
  have hrl : s.data.toList.length = s.size := Array.length_toList
  rw [hrl] at ha hr
  have CC : Hid _ := cut_any s hz w
  rw [hc] at CC
  have HRZ : Hid (r.size ≤ 1099511627776) := by show _ ≤ _; omega
  have HG : Hid (w.heap[g]? = some (.cells (fgA 0 (.slice none 0 0) false ⟨#[]⟩ 0 sm nm) 26 (0, 0))) := hg
  have HW : Hid (Tk w ∧ Tx w ∧ Te w ∧ 8 < g) := ⟨hk, hx, he, hg5⟩
  have HNO : Hid (∀ W : World, W.ownsRow w.heap.size 51 21 (.slice none 0 0) ([] : List Lb).length (cells [])) := fun W => by rw [cells_nil]; exact World.ownsRow_nil _ _ _ _
  clear hc ha hr hrl hz hk hx he hg5 hg
  go_enter Tryz.func14, Tryz.ntmps14
  go_wp2_with fail
  refine Calls.mono CC.out ?_
  rintro e W1 ⟨rfl, b1⟩
  have HG1 : Hid (W1.heap[g]? = some (.cells (fgA 0 (.slice none 0 0) false ⟨#[]⟩ 0 sm nm) 26 (0, 0))) := (b1.block g (Array.getElem?_eq_some_iff.1 HG.out).1).trans HG.out
  have gl : g < w.heap.size := (Array.getElem?_eq_some_iff.1 HG.out).1
  have T1 : Tk W1 := HW.out.1.below b1 HW.out.1.sz
  have HX1 : Hid (Tx W1) := HW.out.2.1.below b1 HW.out.2.1.sz
  have HE1 : Hid (Te W1) := HW.out.2.2.1.keep (b1.block _ (by have := HW.out.2.2.2; omega)) (b1.block _ (by have := HW.out.2.2.2; omega))
  have T0 : Hid (Touch g w W1) := Touch.of_below b1
  obtain ⟨q0, -, -, -, -⟩ := fgA_cells HG1.out
  have f0 : W1.frozen? ⟨g, 0, none⟩ = false := frozen_of_row _ _ _ _ _ HG1.out
  have w1 := T1.w1
  have w2 := T1.w2
  have w3 := T1.w3
  have w4 := T1.w4
  clear CC b1 T1 gl
  by_cases h1 : (a.toList == [116, 101, 120, 116]) = true
  case pos =>
    have TX2 : Touch g W1 (W1.setCell ⟨g, 0, none⟩ (.int .i64 1)) := (Touch.refl g W1).setCell _
    have HT2 : Hid (Touch g w (W1.setCell ⟨g, 0, none⟩ (.int .i64 1))) := T0.out.setCell _
    have CR : Hid _ := refs_weak r b HRZ.out 1 ⟨#[]⟩ 0 sm nm g (W1.setCell ⟨g, 0, none⟩ (.int .i64 1)) (HX1.out.touch TX2 (by have := HW.out.2.2.2; omega)) ((set_fgA HG1.out).1 1) (by have := HW.out.2.2.2; omega)
    clear TX2
    go_wp2_with fail
    refine Calls.mono CR.out ?_
    rintro e W3 ⟨ret, sf, v, A, rfl, r3, o3, l3, y3, t3⟩
    have HEE : Hid (∃ (k : Int) (v : Value) (sf : Bool) (o : ByteArray) (ix : Int) (A : List Lb), W3.heap[g]? = some (.cells (fgA k v sf o ix sm nm) 26 (0, 0)) ∧ W3.ownsRow w.heap.size 51 21 v A.length (cells A) ∧ A.length ≤ 256 ∧ (∀ x ∈ A, Byt x.h) ∧ (0 ≤ k ∧ k ≤ 4) ∧ (-9223372036854775808 ≤ ix ∧ ix ≤ 9223372036854775807) ∧ Touch g w W3) := ⟨1, v, sf, ⟨#[]⟩, 0, A, r3, own_down o3 HT2.out.size, l3, y3, by omega, by omega, HT2.out.trans t3⟩
    clear CR r3 o3 l3 y3 t3 HT2 q0 f0 w1 w2 w3 w4
    go_wp2
    go_ret
    obtain ⟨k, v, sf, o, ix, A, h⟩ := HEE.out
    exact ⟨ret, k, v, sf, o, ix, A, rfl, h⟩
  replace h1 : (a.toList == [116, 101, 120, 116]) = false := by simpa using h1
  by_cases h2 : (a.toList == [115, 111, 117, 114, 99, 101]) = true
  case pos =>
    have TX2 : Touch g W1 (W1.setCell ⟨g, 0, none⟩ (.int .i64 2)) := (Touch.refl g W1).setCell _
    have HT2 : Hid (Touch g w (W1.setCell ⟨g, 0, none⟩ (.int .i64 2))) := T0.out.setCell _
    have CR : Hid _ := refs_weak r b HRZ.out 2 ⟨#[]⟩ 0 sm nm g (W1.setCell ⟨g, 0, none⟩ (.int .i64 2)) (HX1.out.touch TX2 (by have := HW.out.2.2.2; omega)) ((set_fgA HG1.out).1 2) (by have := HW.out.2.2.2; omega)
    clear TX2
    go_wp2_with fail
    refine Calls.mono CR.out ?_
    rintro e W3 ⟨ret, sf, v, A, rfl, r3, o3, l3, y3, t3⟩
    have HEE : Hid (∃ (k : Int) (v : Value) (sf : Bool) (o : ByteArray) (ix : Int) (A : List Lb), W3.heap[g]? = some (.cells (fgA k v sf o ix sm nm) 26 (0, 0)) ∧ W3.ownsRow w.heap.size 51 21 v A.length (cells A) ∧ A.length ≤ 256 ∧ (∀ x ∈ A, Byt x.h) ∧ (0 ≤ k ∧ k ≤ 4) ∧ (-9223372036854775808 ≤ ix ∧ ix ≤ 9223372036854775807) ∧ Touch g w W3) := ⟨2, v, sf, ⟨#[]⟩, 0, A, r3, own_down o3 HT2.out.size, l3, y3, by omega, by omega, HT2.out.trans t3⟩
    clear CR r3 o3 l3 y3 t3 HT2 q0 f0 w1 w2 w3 w4
    go_wp2
    go_ret
    obtain ⟨k, v, sf, o, ix, A, h⟩ := HEE.out
    exact ⟨ret, k, v, sf, o, ix, A, rfl, h⟩
  replace h2 : (a.toList == [115, 111, 117, 114, 99, 101]) = false := by simpa using h2
  by_cases h3 : (a.toList == [111, 117, 116, 112, 117, 116]) = true
  case pos =>
    have HG2 : (W1.setCell ⟨g, 0, none⟩ (.int .i64 3)).heap[g]? = some (.cells (fgA 3 (.slice none 0 0) false ⟨#[]⟩ 0 sm nm) 26 (0, 0)) := (set_fgA HG1.out).1 3
    obtain ⟨-, -, -, q3, -⟩ := fgA_cells HG2
    have f3 : (W1.setCell ⟨g, 0, none⟩ (.int .i64 3)).frozen? ⟨g, 3, none⟩ = false := frozen_of_row _ _ _ _ _ HG2
    have HEE : Hid (∃ (k : Int) (v : Value) (sf : Bool) (o : ByteArray) (ix : Int) (A : List Lb), ((W1.setCell ⟨g, 0, none⟩ (.int .i64 3)).setCell ⟨g, 3, none⟩ (.string r)).heap[g]? = some (.cells (fgA k v sf o ix sm nm) 26 (0, 0)) ∧ ((W1.setCell ⟨g, 0, none⟩ (.int .i64 3)).setCell ⟨g, 3, none⟩ (.string r)).ownsRow w.heap.size 51 21 v A.length (cells A) ∧ A.length ≤ 256 ∧ (∀ x ∈ A, Byt x.h) ∧ (0 ≤ k ∧ k ≤ 4) ∧ (-9223372036854775808 ≤ ix ∧ ix ≤ 9223372036854775807) ∧ Touch g w ((W1.setCell ⟨g, 0, none⟩ (.int .i64 3)).setCell ⟨g, 3, none⟩ (.string r))) := ⟨3, .slice none 0 0, false, r, 0, [], (set_fgA HG2).2.2.2.1 r, HNO.out _, by simp, (fun x hx => by cases hx), by omega, by omega, (T0.out.setCell _).setCell _⟩
    clear HG2
    go_wp2
    go_ret
    obtain ⟨k, v, sf, o, ix, A, h⟩ := HEE.out
    exact ⟨true, k, v, sf, o, ix, A, rfl, h⟩
  replace h3 : (a.toList == [111, 117, 116, 112, 117, 116]) = false := by simpa using h3
  by_cases h4 : (a.toList == [109, 101, 109, 98, 101, 114]) = true
  case pos =>
    have HG2 : Hid ((W1.setCell ⟨g, 0, none⟩ (.int .i64 4)).heap[g]? = some (.cells (fgA 4 (.slice none 0 0) false ⟨#[]⟩ 0 sm nm) 26 (0, 0))) := (set_fgA HG1.out).1 4
    have HT2 : Hid (Touch g w (W1.setCell ⟨g, 0, none⟩ (.int .i64 4))) := T0.out.setCell _
    have E2 : Te (W1.setCell ⟨g, 0, none⟩ (.int .i64 4)) := HE1.out.keep (heap_setCell_other _ _ _ _ (show 4 ≠ g by have := HW.out.2.2.2; omega)) (heap_setCell_other _ _ _ _ (show 5 ≠ g by have := HW.out.2.2.2; omega))
    have CA : Hid _ := atoi_weak r (by have := HRZ.out; omega) (W1.setCell ⟨g, 0, none⟩ (.int .i64 4)) E2
    clear E2
    go_wp2_with fail
    refine Calls.mono CA.out ?_
    rintro e W3 ⟨⟨n, ev, rfl, hn, hev⟩, b3⟩
    have HG3 : Hid (W3.heap[g]? = some (.cells (fgA 4 (.slice none 0 0) false ⟨#[]⟩ 0 sm nm) 26 (0, 0))) := (b3.block g (Array.getElem?_eq_some_iff.1 HG2.out).1).trans HG2.out
    have T3 : Hid (Touch g w W3) := tch_below HT2.out b3
    obtain ⟨-, -, -, -, q4⟩ := fgA_cells HG3.out
    have f4 : W3.frozen? ⟨g, 4, none⟩ = false := frozen_of_row _ _ _ _ _ HG3.out
    have HEE : Hid (∃ (k : Int) (v : Value) (sf : Bool) (o : ByteArray) (ix : Int) (A : List Lb), (W3.setCell ⟨g, 4, none⟩ (.int .i64 n)).heap[g]? = some (.cells (fgA k v sf o ix sm nm) 26 (0, 0)) ∧ (W3.setCell ⟨g, 4, none⟩ (.int .i64 n)).ownsRow w.heap.size 51 21 v A.length (cells A) ∧ A.length ≤ 256 ∧ (∀ x ∈ A, Byt x.h) ∧ (0 ≤ k ∧ k ≤ 4) ∧ (-9223372036854775808 ≤ ix ∧ ix ≤ 9223372036854775807) ∧ Touch g w (W3.setCell ⟨g, 4, none⟩ (.int .i64 n))) := ⟨4, .slice none 0 0, false, ⟨#[]⟩, n, [], (set_fgA HG3.out).2.2.2.2 n, HNO.out _, by simp, (fun x hx => by cases hx), by omega, hn, T3.out.setCell _⟩
    clear CA b3 HG2 HT2 HG3 T3 q0 f0 w1 w2 w3 w4 hn
    rcases hev with rfl | ⟨te, pe, rfl⟩
    · go_wp2
      go_ret
      obtain ⟨k, v, sf, o, ix, A, h⟩ := HEE.out
      exact ⟨_, k, v, sf, o, ix, A, rfl, h⟩
    · go_wp2
      go_ret
      obtain ⟨k, v, sf, o, ix, A, h⟩ := HEE.out
      exact ⟨_, k, v, sf, o, ix, A, rfl, h⟩
  replace h4 : (a.toList == [109, 101, 109, 98, 101, 114]) = false := by simpa using h4
  have HEE : Hid (∃ (k : Int) (v : Value) (sf : Bool) (o : ByteArray) (ix : Int) (A : List Lb), W1.heap[g]? = some (.cells (fgA k v sf o ix sm nm) 26 (0, 0)) ∧ W1.ownsRow w.heap.size 51 21 v A.length (cells A) ∧ A.length ≤ 256 ∧ (∀ x ∈ A, Byt x.h) ∧ (0 ≤ k ∧ k ≤ 4) ∧ (-9223372036854775808 ≤ ix ∧ ix ≤ 9223372036854775807) ∧ Touch g w W1) := ⟨0, .slice none 0 0, false, ⟨#[]⟩, 0, [], HG1.out, HNO.out _, by simp, (fun x hx => by cases hx), by omega, by omega, T0.out⟩
  go_wp2
  go_ret
  obtain ⟨k, v, sf, o, ix, A, h⟩ := HEE.out
  exact ⟨false, k, v, sf, o, ix, A, rfl, h⟩
end Go.Proofs.YtffghlbgbfhfdaaGreatDoor

/- readFinger of any text. -/
namespace Go.Proofs.YtffghlbgbfhfdaaGreatDoor
open Go.RowKit Go.Shelf Go.Sort
set_option maxHeartbeats 1000000 in
set_option maxRecDepth 100000 in
theorem lastL_weak (s : ByteArray) (hs : s.size ≤ 1099511627776) (w : World) :
    Calls Tryz.prog 26 #[.string s, .int .u8 58] w fun e w' => (∃ i : Int, e = .returned (.int .i64 i) ∧ -1 ≤ i ∧ i < (s.size : Int)) ∧ w' = w := by
  have w1 : IntKind.i64.wrap ((s.size : Int) - 1) = (s.size : Int) - 1 := by rw [IntKind.wrap_i64]; omega
  go_enter Tryz.func26, Tryz.ntmps26
  go_wp2_with fail
  go_loopw [5] (fun iv wr => ∃ i : Int, iv = .int .i64 i ∧ -1 ≤ i ∧ i < (s.size : Int) ∧ wr = w) (fun iv _ => (intOf iv + 1).toNat)
  case atStart => exact ⟨(s.size : Int) - 1, rfl, by omega, by omega, rfl⟩
  case round =>
    obtain ⟨i, rfl, h1, h2, rfl⟩ := hrel
    by_cases h0 : 0 ≤ i
    · obtain ⟨k, rfl⟩ : ∃ k : Nat, i = (k : Int) := ⟨i.toNat, by omega⟩
      have ix := idx9 wr s k (by omega)
      by_cases hk : byt s k = 58
      · rw [hk] at ix
        go_wp2
        go_ret
        exact ⟨⟨(k : Int), rfl, by omega, by omega⟩, rfl⟩
      · have hb' : ((((byt s k : Nat) : Int) == 58)) = false := by simp; omega
        have w2 : IntKind.i64.wrap ((k : Int) - 1) = (k : Int) - 1 := by rw [IntKind.wrap_i64]; omega
        go_wp2
        exact ⟨⟨(k : Int) - 1, by rfl, by omega, by omega, by trivial⟩, by simp only [intOf]; omega⟩
    · have hi : i = -1 := by omega
      subst hi
      go_wp2
      go_ret
      exact ⟨⟨-1, rfl, by omega, by omega⟩, rfl⟩
set_option maxRecDepth 100000 in
theorem last_weak (s : ByteArray) (hs : s.size ≤ 1099511627776) (w : World) :
    Calls Tryz.prog 12 #[.string s, .int .u8 58] w fun e w' => (∃ i : Int, e = .returned (.int .i64 i) ∧ -1 ≤ i ∧ i < (s.size : Int)) ∧ w' = w := by
  have C : Hid _ := lastL_weak s hs w
  go_enter Tryz.func12, Tryz.ntmps12
  go_wp2_with fail
  refine Calls.mono C.out ?_
  rintro e W1 ⟨⟨i, rfl, h1, h2⟩, hw'⟩
  have hw2 := hw'.symm
  subst hw2
  have HI : Hid (-1 ≤ i ∧ i < (s.size : Int)) := ⟨h1, h2⟩
  clear h1 h2
  go_wp2
  go_ret
  exact ⟨⟨i, rfl, HI.out⟩, rfl⟩
def fg0 : Fg := { k := 0, v := .slice none 0 0, L := [], self := false, out := ⟨#[]⟩, ix := 0, sm := z32, nm := ⟨#[]⟩, hl := rfl, hb := fun x hx => by rw [List.eq_of_mem_replicate hx]; decide, hk := by decide, hix := by decide, hn := Nat.zero_le _, hL := fun x hx => by cases hx }
theorem fg0_zF : fing fg0 = zF := rfl
set_option maxRecDepth 100000 in
theorem built_z : Tryz.prog.built 26 [] = some zF := by kernel_rfl
theorem run_buildZ (w : World) : (buildF #[]).run Tryz.prog w = .ok (.agg zF) w := run_build w 26 _ _ built_z
/-- What readFinger answers. -/
def FwP (w : World) (e : Ending) (w' : World) : Prop := ∃ (f : Fg) (ret : Bool), e = .returned (.tuple #[.agg (fing f), .bool ret]) ∧ Ls f.v f.L w' ∧ Below w.heap.size w w'
attribute [local go_sem ↓] toFl to26s toBuildF toSl24
set_option maxRecDepth 100000 in
set_option maxHeartbeats 3200000 in
theorem finger_weak (s : ByteArray) (hs : s.size ≤ 1099511627776) (w : World) (hk : Tk w) (hx : Tx w) (he : Te w) (h8 : 8 < w.heap.size) :
    Calls Tryz.prog 7 #[.string s] w (FwP w) := by
  obtain ⟨W0, hW0⟩ : ∃ W0, w.alloc (.cells #[.int .i64 0, .slice none 0 0, .bool false, .string ⟨#[]⟩, .int .i64 0, .int .u8 0, .int .u8 0, .int .u8 0, .int .u8 0, .int .u8 0, .int .u8 0, .int .u8 0, .int .u8 0, .int .u8 0, .int .u8 0, .int .u8 0, .int .u8 0, .int .u8 0, .int .u8 0, .int .u8 0, .int .u8 0, .int .u8 0, .int .u8 0, .int .u8 0, .int .u8 0, .int .u8 0, .int .u8 0, .int .u8 0, .int .u8 0, .int .u8 0, .int .u8 0, .int .u8 0, .int .u8 0, .int .u8 0, .int .u8 0, .int .u8 0, .int .u8 0, .string ⟨#[]⟩] 26) = W0 := ⟨_, rfl⟩
  have b0 : Below w.heap.size w W0 := by rw [← hW0]; exact (Below.refl _ w).alloc (Nat.le_refl _) _
  have R0 : Hid (W0.heap[w.heap.size]? = some (.cells zF 26 (0, 0))) := by show _ = _; rw [← hW0, zF_lit]; exact heap_alloc_new _ _
  have z0 : W0.heap.size = w.heap.size + 1 := by rw [← hW0]; simp
  have CL : Hid _ := last_weak s hs W0
  have HS : Hid (s.size ≤ 1099511627776 ∧ 8 < w.heap.size ∧ W0.heap.size = w.heap.size + 1) := ⟨hs, h8, z0⟩
  have HK0 : Hid (Tk W0 ∧ Tx W0 ∧ Te W0) := ⟨hk.below b0 hk.sz, hx.below b0 hx.sz, he.keep (b0.block _ (by omega)) (b0.block _ (by omega))⟩
  have HB0 : Hid (Below w.heap.size w W0) := b0
  have HW0 : Hid _ := hW0
  have bZ : ∀ W, (buildF #[]).run Tryz.prog W = .ok (.agg zF) W := fun W => run_buildZ W
  clear hW0 b0 hk hx he hs h8 z0
  go_enter Tryz.func7, Tryz.ntmps7
  go_wp2_with fail
  rw [HW0.out]
  refine Calls.mono CL.out ?_
  rintro e W1 ⟨⟨i, rfl, h1, h2⟩, hw1⟩
  have hw2 := hw1.symm
  subst hw2
  clear CL HW0
  obtain ⟨n, hn⟩ : ∃ n : Nat, (n : Int) = i + 1 := ⟨(i + 1).toNat, by omega⟩
  have p1 : IntKind.i64.wrap (i + 1) = (n : Int) := by have := HS.out.1; rw [IntKind.wrap_i64]; omega
  have hns : n ≤ s.size := by omega
  by_cases hH : n < 86
  case pos =>
    have p2 : IntKind.i64.wrap ((n : Int) - 86) = (n : Int) - 86 := by rw [IntKind.wrap_i64]; omega
    have p3 : (n : Int) - 86 < 0 := by omega
    have st := stF W0 w.heap.size zF zF zF_size zF_size (fgA_one _ _ _ _ _ _ _ _ _) R0.out
    have HR4 : Hid ((W0.setRow w.heap.size zF).heap[w.heap.size]? = some (.cells zF 26 (0, 0))) := setRow_heap _ _ _ _ _ _ R0.out
    have HB4 : Hid (Below w.heap.size w (W0.setRow w.heap.size zF)) := below_setRow HB0.out (Nat.le_refl _) _
    clear h1 h2 hn
    go_wp2
    exact bodyPost_ret (results_F2 rfl _ _ w.heap.size zF zF_size rfl HR4.out) rfl ⟨fg0, false, by rw [fg0_zF]; rfl, .inl ⟨rfl, none, 0, rfl, Nat.zero_le _, fun _ => rfl⟩, HB4.out⟩
  obtain ⟨H, hHn⟩ : ∃ H, n = H + 86 := ⟨n - 86, by omega⟩
  obtain ⟨n8, hn8⟩ : ∃ n8, n8 = H + 8 := ⟨_, rfl⟩
  obtain ⟨n72, hn72⟩ : ∃ n72, n72 = H + 72 := ⟨_, rfl⟩
  have hs0 := HS.out.1
  have p2 : IntKind.i64.wrap ((n : Int) - 86) = (H : Int) := by rw [IntKind.wrap_i64]; omega
  have p3 : IntKind.i64.wrap ((H : Int) + 8) = (n8 : Int) := by rw [IntKind.wrap_i64]; omega
  have p4 : IntKind.i64.wrap ((n8 : Int) + 64) = (n72 : Int) := by rw [IntKind.wrap_i64]; omega
  have p5 : ¬ ((H : Int) < 0) := by omega
  have i1 : (n8 : Int) ≤ (n72 : Int) := by omega
  have i2 : (n72 : Int) ≤ (s.size : Int) := by omega
  have i3 : (0 : Int) ≤ (n8 : Int) := by omega
  have i4 : (n : Int) ≤ (s.size : Int) := by omega
  have i5 : (0 : Int) ≤ (n : Int) := by omega
  have i6 : (H : Int) ≤ (s.size : Int) := by omega
  have i7 : (0 : Int) ≤ (H : Int) := by omega
  obtain ⟨d, hd⟩ : ∃ d, d = s.extract n8 n72 := ⟨_, rfl⟩
  have hds : d.size = 64 := by rw [hd, ByteArray.size_extract]; omega
  obtain ⟨hs2, hhs2⟩ : ∃ hs2, hs2 = s.extract 0 H := ⟨_, rfl⟩
  have HHS : Hid (hs2.size ≤ 1099511627776 ∧ hs2 = s.extract 0 H) := ⟨by rw [hhs2, ByteArray.size_extract]; omega, hhs2⟩
  have CU0 := Hx.unhex_any d (by omega) W0 HK0.out.2.1
  obtain ⟨E, hE⟩ : ∃ E, E = Hx.hexE (Hx.tl d) := ⟨_, rfl⟩
  obtain ⟨sm, hsm⟩ : ∃ sm, sm = Hx.hexV (Hx.tl d) := ⟨_, rfl⟩
  rw [← hE, ← hsm] at CU0
  have CU : Hid (Calls Tryz.prog 13 #[.string (s.extract n8 n72)] W0 (Hx.RdP sm E W0)) := by rw [← hd]; exact CU0
  have HSM : Hid (E.1 = 0 → sm.length = 32 ∧ Byt sm) := fun h => by
    have hl : sm.length = 32 := by
      rw [hsm, ← Hx.partH_all, Hx.partH_len, Hx.tl_len, hds]
    exact ⟨hl, by rw [hsm]; exact Hx.hexV_byt (by rw [← hE]; exact h)⟩
  clear h1 h2 hn hns hH hHn hn8 hn72 hs0 CU0 hE hsm hds hd hhs2
  go_wp2_with fail
  refine Calls.mono CU.out ?_
  rintro e W1 ⟨b1, v, rfl, hif⟩
  have zz : w.heap.size + 1 ≤ W1.heap.size := by have := b1.size; have := HS.out.2.2; omega
  have R1 : W1.heap[w.heap.size]? = some (.cells zF 26 (0, 0)) := (b1.block _ (by have := HS.out.2.2; omega)).trans R0.out
  by_cases hE0 : E.1 = 0
  case neg =>
    rw [if_neg hE0] at hif
    subst hif
    have hE1 : ¬ (((E.1 : Nat) : Int) = 0) := by omega
    have st := stF W1 w.heap.size zF zF zF_size zF_size (fgA_one _ _ _ _ _ _ _ _ _) R1
    have HR4 : Hid ((W1.setRow w.heap.size zF).heap[w.heap.size]? = some (.cells zF 26 (0, 0))) := setRow_heap _ _ _ _ _ _ R1
    have HB4 : Hid (Below w.heap.size w (W1.setRow w.heap.size zF)) := below_setRow (HB0.out.trans (b1.mono HB0.out.size)) (Nat.le_refl _) _
    obtain ⟨E1, hE1'⟩ : ∃ E1, E1 = E.1 := ⟨_, rfl⟩
    obtain ⟨E2, hE2'⟩ : ∃ E2, E2 = E.2 := ⟨_, rfl⟩
    rw [← hE1', ← hE2']
    rw [← hE1'] at hE1
    clear CU b1 zz R1 hE0 hE1' hE2' HSM
    go_wp2
    exact bodyPost_ret (results_F2 rfl _ _ w.heap.size zF zF_size rfl HR4.out) rfl ⟨fg0, false, by rw [fg0_zF]; rfl, .inl ⟨rfl, none, 0, rfl, Nat.zero_le _, fun _ => rfl⟩, HB4.out⟩
  rw [if_pos hE0] at hif
  obtain ⟨hl, hby⟩ := HSM.out hE0
  rw [hE0]
  obtain ⟨E2, hE2'⟩ : ∃ E2, E2 = E.2 := ⟨_, rfl⟩
  rw [← hE2']
  rcases (byl_own hif).1 with ⟨-, hnil⟩ | ⟨gs, off, cap, hv, hc1, hc2, hgs, hcell⟩
  · exfalso
    rw [hnil] at hl
    cases hl
  rw [hl] at hv
  subst hv
  obtain ⟨nm, hnm⟩ : ∃ nm, nm = s.extract n s.size := ⟨_, rfl⟩
  obtain ⟨D, hD⟩ : ∃ D, D = fgA 0 (.slice none 0 0) false ⟨#[]⟩ 0 sm nm := ⟨_, rfl⟩
  have hDs : D.size = 38 := by rw [hD]; exact fgA_size _ _ _ _ _ _ _ hl
  have hD1 : D.all (·.oneCell') = true := by rw [hD]; exact fgA_one _ _ _ _ _ _ _ _ _
  have l1 := run_ldS W1.drew gs off sm hcell hl
  have l2 := run_ldS (W1.alloc (.cells #[.int .i64 0, .slice none 0 0, .bool false, .string ⟨#[]⟩, .int .i64 0, .int .u8 0, .int .u8 0, .int .u8 0, .int .u8 0, .int .u8 0, .int .u8 0, .int .u8 0, .int .u8 0, .int .u8 0, .int .u8 0, .int .u8 0, .int .u8 0, .int .u8 0, .int .u8 0, .int .u8 0, .int .u8 0, .int .u8 0, .int .u8 0, .int .u8 0, .int .u8 0, .int .u8 0, .int .u8 0, .int .u8 0, .int .u8 0, .int .u8 0, .int .u8 0, .int .u8 0, .int .u8 0, .int .u8 0, .int .u8 0, .int .u8 0, .int .u8 0, .string ⟨#[]⟩] 26)).drew gs off sm (fun j hj => (cell_al W1 gs (off + j) hgs _).trans (hcell j hj)) hl
  have aA : ∀ W, (Instr.arrayAt 24 (.slice (some ⟨gs, off, none⟩) 32 cap)).run Tryz.prog W = .ok (.pointer (some ⟨gs, off, none⟩)) W := fun W => run_arrS W _ _
  have bF : ∀ W, (buildF #[(5, .agg (bs sm)), (6, .string (s.extract n s.size))]).run Tryz.prog W = .ok (.agg D) W := fun W => by rw [← hnm, hD]; exact run_buildF0 W sm hl nm
  obtain ⟨W2, s2, r2, b2⟩ := layF W1.drew D hDs hD1
  have s2' : (storeR 26 (.pointer (some ⟨W1.heap.size, 0, none⟩)) (.agg D)).run Tryz.prog (W1.alloc (.cells #[.int .i64 0, .slice none 0 0, .bool false, .string ⟨#[]⟩, .int .i64 0, .int .u8 0, .int .u8 0, .int .u8 0, .int .u8 0, .int .u8 0, .int .u8 0, .int .u8 0, .int .u8 0, .int .u8 0, .int .u8 0, .int .u8 0, .int .u8 0, .int .u8 0, .int .u8 0, .int .u8 0, .int .u8 0, .int .u8 0, .int .u8 0, .int .u8 0, .int .u8 0, .int .u8 0, .int .u8 0, .int .u8 0, .int .u8 0, .int .u8 0, .int .u8 0, .int .u8 0, .int .u8 0, .int .u8 0, .int .u8 0, .int .u8 0, .int .u8 0, .string ⟨#[]⟩] 26)).drew = .ok () W2 := s2
  have b12 : Below W1.heap.size W1 W2 := ⟨b2.os, b2.tape, b2.output, b2.size, b2.block⟩
  have b02 : Below w.heap.size w W2 := (HB0.out.trans (b1.mono HB0.out.size)).trans (b12.mono (Nat.le_trans HB0.out.size b1.size))
  have HB2 : Hid (Below w.heap.size w W2) := b02
  have bb : Below W0.heap.size W0 W2 := b1.trans (b12.mono b1.size)
  have R2 : Hid (W2.heap[w.heap.size]? = some (.cells zF 26 (0, 0))) := (b12.block _ (by omega)).trans R1
  have HG2 : Hid (W2.heap[W1.heap.size]? = some (.cells (fgA 0 (.slice none 0 0) false ⟨#[]⟩ 0 sm nm) 26 (0, 0))) := by show _ = _; rw [← hD]; exact r2
  have HK2 : Hid (Tk W2 ∧ Tx W2 ∧ Te W2) := ⟨HK0.out.1.below bb HK0.out.1.sz, HK0.out.2.1.below bb HK0.out.2.1.sz, HK0.out.2.2.keep (bb.block _ (by have := HS.out.2; omega)) (bb.block _ (by have := HS.out.2; omega))⟩
  have HZZ : Hid (w.heap.size + 1 ≤ W1.heap.size) := zz
  have HLB : Hid (sm.length = 32 ∧ Byt sm) := ⟨hl, hby⟩
  clear CU hif hc1 hc2 hcell s2 r2 b2 b12 b02 bb R0 R1 HK0 b1 zz hDs hD1 hD hnm hl hby hE0 hE2' HSM bZ
  go_wp2_with fail
  go_region
  clear l1 l2 bF s2' aA
  have CH : Hid (Calls Tryz.prog 14 #[.pointer (some ⟨W1.heap.size, 0, none⟩), .string (s.extract 0 H)] W2 (HwP sm nm W1.heap.size W2)) := by
    rw [← HHS.out.2]
    exact head_weak hs2 HHS.out.1 sm nm W1.heap.size W2 HK2.out.1 HK2.out.2.1 HK2.out.2.2 (by have := HZZ.out; have := HS.out.2.1; omega) HG2.out
  go_wp2_with fail
  refine Calls.mono CH.out ?_
  rintro e W3 ⟨ret, k, v, sf, o, ix, A, rfl, r3, hl3, hA2, hAb, hk4, hix, t3⟩
  obtain ⟨oo, cc, hv, -, -⟩ := (own_Ls hl3).form
  have hzz := HZZ.out
  have hb2 := HB2.out.size
  have s12 : W1.heap.size < W2.heap.size := (Array.getElem?_eq_some_iff.1 HG2.out).1
  obtain ⟨C, hC⟩ : ∃ C, C = fgA k v sf o ix sm nm := ⟨_, rfl⟩
  have hCs : C.size = 38 := by rw [hC]; exact fgA_size _ _ _ _ _ _ _ HLB.out.1
  have hC1 : C.all (·.oneCell') = true := by rw [hC, hv]; exact fgA_one _ _ _ _ _ _ _ _ _
  rw [← hC] at r3
  have l3 := ldF W3 W1.heap.size C hCs r3
  have R3 : W3.heap[w.heap.size]? = some (.cells zF 26 (0, 0)) := (t3.block _ (by omega) (by omega)).trans R2.out
  have s3 := stF W3 w.heap.size zF C zF_size hCs hC1 R3
  have HR4 : Hid ((W3.setRow w.heap.size C).heap[w.heap.size]? = some (.cells C 26 (0, 0))) := setRow_heap _ _ _ _ _ _ R3
  have b23 : Below w.heap.size W2 W3 := t3.below (by omega) hb2
  have HB4 : Hid (Below w.heap.size w (W3.setRow w.heap.size C)) := below_setRow (HB2.out.trans b23) (Nat.le_refl _) _
  have HO4 : Hid (Ls v A (W3.setRow w.heap.size C)) := own_Ls (own_row' hl3 (by omega) C)
  have HFX : Hid (∃ f : Fg, C = fing f ∧ f.v = v ∧ f.L = A) := ⟨⟨k, v, A, sf, o, ix, sm, nm, HLB.out.1, HLB.out.2, by omega, hix, by omega, hAb⟩, hC, rfl, rfl⟩
  have HC : Hid (C.size = 38) := hCs
  clear CH hv hzz hb2 s12 hC hCs hC1 r3 R3 b23 t3 hl3 hA2 hAb hk4 hix
  go_wp2
  refine bodyPost_ret (results_F2 rfl _ _ w.heap.size C HC.out rfl HR4.out) rfl ?_
  obtain ⟨f, h1, h2, h3⟩ := HFX.out
  refine ⟨f, ret, by rw [← h1]; rfl, ?_, HB4.out⟩
  rw [h2, h3]
  exact HO4.out
end Go.Proofs.YtffghlbgbfhfdaaGreatDoor
