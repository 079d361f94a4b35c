/- LabelMakes: the walk. -/
import Derived.Test.YteajpimonenopaaGreatDoorLrD
import Derived.Test.YteajpimonenopaaGreatDoorLrB
import Derived.Deep.RegionWith
import Derived.BigQuiet
namespace Go.Proofs.YteajpimonenopaaGreatDoor
open Go.RowKit Go.Shelf Go.Sort Go.Proofs.YteajpimonenopaaGreatDoor.Sha
def fV (f : Fg) (v : Value) : Fg := { f with v := v }
/-- Two labels' blocks above what was laid. -/
structure Gm (W3 : World) (ga gb : Nat) (A B : Array Value) (W : World) : Prop where
  bel : Below W3.heap.size W3 W
  a : W.heap[ga]? = some (.cells A 30 (0, 0))
  b : W.heap[gb]? = some (.cells B 30 (0, 0))
  sa : W3.heap.size ≤ ga ∧ W3.heap.size ≤ gb ∧ ga ≠ gb
theorem Gm.below {W3 : World} {ga gb : Nat} {A B : Array Value} {W W' : World} (h : Gm W3 ga gb A B W) (b : Below W.heap.size W W') : Gm W3 ga gb A B W' :=
  ⟨h.bel.trans (b.mono h.bel.size), (b.block _ (Array.getElem?_eq_some_iff.1 h.a).1).trans h.a, (b.block _ (Array.getElem?_eq_some_iff.1 h.b).1).trans h.b, h.sa⟩
theorem Gm.setA {W3 : World} {ga gb : Nat} {A B : Array Value} {W : World} (h : Gm W3 ga gb A B W) (A' : Array Value) : Gm W3 ga gb A' B (W.setRow ga A') :=
  ⟨below_setRow h.bel h.sa.1 _, setRow_heap _ _ _ _ _ _ h.a, (setRow_other _ _ _ _ (fun e => h.sa.2.2 e.symm)).trans h.b, h.sa⟩
theorem Gm.setB {W3 : World} {ga gb : Nat} {A B : Array Value} {W : World} (h : Gm W3 ga gb A B W) (B' : Array Value) : Gm W3 ga gb A B' (W.setRow gb B') :=
  ⟨below_setRow h.bel h.sa.2.1 _, (setRow_other _ _ _ _ h.sa.2.2).trans h.a, setRow_heap _ _ _ _ _ _ h.b, h.sa⟩
/-- All that lies. -/
structure Al (f : Fg) (d Z : List Nat) (dv : Value) (g cF p cp : Nat) (w X : World) : Prop where
  bel : Below w.heap.size w X
  tk : Tk X
  tx : Tx X
  tb : Tb X
  tr : Tr X
  sz : 6 < X.heap.size
  ls : Ls f.v f.L X
  by_ : YteajpimonenopaaGreatDoor.Byl dv d X
  fl : Lr g 0 (f.L ++ [mk, mk]) X
  gx : g < X.heap.size
  fc : f.L.length + 2 ≤ cF ∧ cF ≤ maxLen
  own : YteajpimonenopaaGreatDoor.Byl (.slice (some ⟨p, 0, none⟩) (d.length + 1) cp) (d ++ [90]) X
  gs : X.heap[w.heap.size]? = some (.cells (bs Z) 24 (0, 0))
theorem Al.below {f : Fg} {d Z : List Nat} {dv : Value} {g cF p cp : Nat} {w X Y : World} (h : Al f d Z dv g cF p cp w X) (b : Below X.heap.size X Y) : Al f d Z dv g cF p cp w Y :=
  ⟨h.bel.trans (b.mono h.bel.size), h.tk.below b h.tk.sz, h.tx.below b h.tx.sz, h.tb.below b h.tb.sz, h.tr.below b h.sz, Nat.lt_of_lt_of_le h.sz b.size, h.ls.below b, h.by_.below b, h.fl.keep (b.block g h.gx), Nat.lt_of_lt_of_le h.gx b.size, h.fc, h.own.below b, (b.block _ (Array.getElem?_eq_some_iff.1 h.gs).1).trans h.gs⟩
theorem Al.fcl {f : Fg} {d Z : List Nat} {dv : Value} {g cF p cp : Nat} {w X : World} (h : Al f d Z dv g cF p cp w X) : Ls (.slice (some ⟨g, 0, none⟩) f.L.length cF) f.L X :=
  .inr ⟨g, 0, cF, rfl, by have := h.fc; omega, h.fc.2, h.gx, fun i x hx => h.fl i x (by rw [List.getElem?_append_left (List.getElem?_eq_some_iff.1 hx).1]; exact hx)⟩
theorem Al.oc {f : Fg} {d Z : List Nat} {dv : Value} {g cF p cp : Nat} {w X : World} (h : Al f d Z dv g cF p cp w X) : YteajpimonenopaaGreatDoor.Byl (.slice (some ⟨p, 0, none⟩) d.length cp) d X ∧ X.cell? ⟨p, d.length, none⟩ = some (.int .u8 90) ∧ d.length + 1 ≤ cp := by
  rcases h.own with ⟨h1, -⟩ | ⟨b, off, cap, h1, h2, h3, h4, h5⟩
  · cases h1
  · have e := h1
    simp only [Value.slice.injEq, Option.some.injEq, Addr.mk.injEq] at e
    obtain ⟨⟨rfl, rfl, -⟩, -, rfl⟩ := e
    rw [List.length_append, List.length_singleton] at h2 h5
    refine ⟨.inr ⟨p, 0, cp, rfl, by omega, h3, h4, fun j hj => ?_⟩, ?_, h2⟩
    · have := h5 j (by omega)
      rw [this]
      simp [List.getD, List.getElem?_append_left hj]
    · have := h5 d.length (by omega)
      rw [Nat.zero_add] at this
      rw [this]
      simp [List.getD]
/-- A text of bytes, kept shut. -/
def cvS (v : Value) : Sem Value := convert 22 9 v
theorem toCvS (v : Value) : convert 22 9 v = cvS v := rfl
attribute [local go_sem ↓] toCvS to25s to25l toEq toBuildF toSuL toSs toCv toFl toSlL toSl toApp
set_option maxRecDepth 100000 in
set_option maxHeartbeats 8000000 in
theorem makes_any (n o : ByteArray) (d : List Nat) (hd : d.length ≤ 1048576) (hdb : Byt d) (dv : Value) (Z : List Nat) (hZ : Z.length = 32) (bZ : Byt Z) (f : Fg) (hn : f.L.length ≤ 1048576) (sf : Bool) (ix : Int) (hi : -9223372036854775808 ≤ ix ∧ ix ≤ 9223372036854775807) (w : World) (hk : Tk w) (hx : Tx w) (ht : Tb w) (hr : Tr w) (hv0 : Ls f.v f.L w) (hy : YteajpimonenopaaGreatDoor.Byl dv d w) :
    Calls Tryz.prog 3 #[.string n, .string o, dv, .agg (bs Z), f.v, .bool sf, .int .i64 ix] w fun e w' => e = .returned (.bool true) ∧ Below w.heap.size w w' := by
  obtain ⟨q, c, hvv, -, -⟩ := hv0.form
  obtain ⟨qd, cd, hdv, -, -, -⟩ := hy.form
  obtain ⟨m, hm0⟩ : ∃ m, m = f.L.length := ⟨_, rfl⟩
  obtain ⟨dl, hdl⟩ : ∃ dl, dl = d.length := ⟨_, rfl⟩
  obtain ⟨W0, hW0⟩ : ∃ W0, w.alloc (.cells (bs Z) 24) = W0 := ⟨_, rfl⟩
  have b0 : Below w.heap.size w W0 := by rw [← hW0]; exact (Below.refl _ w).alloc (Nat.le_refl _) _
  have r0 : W0.heap[w.heap.size]? = some (.cells (bs Z) 24 (0, 0)) := by rw [← hW0]; exact heap_alloc_new w _
  have C1 := roomy_any f.L (by omega) f.v W0 (hv0.below b0)
  have HT : Hid (∀ W, Below w.heap.size w W → Tk W ∧ Tx W ∧ Tb W ∧ Tr W ∧ 6 < W.heap.size ∧ Ls f.v f.L W ∧ YteajpimonenopaaGreatDoor.Byl dv d W) := fun W h => ⟨hk.below h hk.sz, hx.below h hx.sz, ht.below h ht.sz, hr.below h ht.sz, Nat.lt_of_lt_of_le ht.sz h.size, hv0.below h, hy.below h⟩
  have HVV : Hid (f.v = .slice q m c ∧ m = f.L.length) := ⟨by rw [hvv, hm0], hm0⟩
  have HDV : Hid (dv = .slice qd dl cd ∧ dl = d.length ∧ dl ≤ 1048576 ∧ m ≤ 1048576) := ⟨by rw [hdv, hdl], hdl, by omega, by omega⟩
  rw [hvv, ← hm0] at C1
  rw [hvv, hdv, ← hm0, ← hdl]
  have HC1 : Hid _ := C1
  have HW0 : Hid (w.alloc (.cells (bs Z) 24) = W0) := hW0
  have H0 : Hid (Below w.heap.size w W0 ∧ W0.heap[w.heap.size]? = some (.cells (bs Z) 24 (0, 0))) := ⟨b0, r0⟩
  have HBY : Hid (Byt d ∧ Z.length = 32 ∧ Byt Z) := ⟨hdb, hZ, bZ⟩
  clear hk hx ht hr hv0 hy hvv hdv hm0 hdl hW0 b0 r0 C1 hd hn hdb
  go_enter Tryz.func3, Tryz.ntmps3
  go_wp2_with fail
  rw [HW0.out]
  refine Calls.mono HC1.out ?_
  rintro e W1 ⟨u, rfl, o1, b1⟩
  obtain ⟨g, cF, rfl, hg1, hcF, hcm, hrl⟩ : ∃ g cap, u = .slice (some ⟨g, 0, none⟩) (m + 2) cap ∧ g < W1.heap.size ∧ m + 2 ≤ cap ∧ cap ≤ maxLen ∧ Lr g 0 (f.L ++ [mk, mk]) W1 := by
    obtain ⟨-, ⟨h, -⟩ | ⟨g, cap, h1, h2, h3, h4, h5, h6⟩⟩ := own_ls o1
    · simp at h
    · have e : (f.L ++ [mk, mk]).length = m + 2 := by rw [List.length_append, HVV.out.2]; rfl
      rw [e] at h1 h4
      exact ⟨g, cap, h1, h3, h4, h5, h6⟩
  have HB1 : Hid (Below w.heap.size w W1) := H0.out.1.trans (b1.mono H0.out.1.size)
  have R1 : Hid (W1.heap[w.heap.size]? = some (.cells (bs Z) 24 (0, 0))) := (b1.block _ (Array.getElem?_eq_some_iff.1 H0.out.2).1).trans H0.out.2
  obtain ⟨v1, W2, s1, ow1, hg⟩ := run_append_byl W1 W1.heap.size 0 22 (.slice none 0 0) dv [] d (World.ownsRow_nil _ _ _ _) (HT.out W1 HB1.out).2.2.2.2.2.2 (by have := HDV.out; omega) (Nat.le_refl _)
  rw [List.nil_append, Nat.zero_add] at ow1
  have bl1 : Below W1.heap.size W1 W2 := below_grown (Below.refl _ W1) hg (Nat.le_refl _) (fun g hg => by cases hg)
  obtain ⟨v2, W3, s2, ow2, bl2⟩ := run_ap1 W2 W1.heap.size d.length v1 d 90 ow1 (by have := HDV.out; omega) bl1.size
  have s2' : (appR 22 #[v1, .slice (some ⟨W2.heap.size, 0, none⟩) 1 1]).run Tryz.prog (W2.alloc (.cells #[.int .u8 90] 5)) = .ok v2 W3 := s2
  have bl3 := bl1.trans bl2
  rw [HDV.out.1] at s1
  obtain ⟨p, cp, rfl⟩ : ∃ p cp, v2 = .slice (some ⟨p, 0, none⟩) (dl + 1) cp := by
    obtain ⟨-, ⟨-, h⟩ | ⟨p, cp, cur, h, -⟩⟩ := ow2
    · simp at h
    · exact ⟨p, cp, by rw [h, HDV.out.2.1]⟩
  have AL3 : Al f d Z dv g cF p cp w W3 := by
    have q0 : Below w.heap.size w W3 := HB1.out.trans (bl3.mono HB1.out.size)
    obtain ⟨t1, t2, t3, t4, t5, t6, t7⟩ := HT.out W3 q0
    refine ⟨q0, t1, t2, t3, t4, t5, t6, t7, hrl.keep (bl3.block g hg1), by have := bl3.size; omega, ⟨by rw [← HVV.out.2]; exact hcF, hcm⟩, ?_, (bl3.block _ (Array.getElem?_eq_some_iff.1 R1.out).1).trans R1.out⟩
    have := (byl_own ow2).1
    rw [HDV.out.2.1] at this
    exact this
  have HAL : Hid (∀ X, Below W3.heap.size W3 X → Al f d Z dv g cF p cp w X) := fun X h => AL3.below h
  have hcF2 : m ≤ cF := by omega
  have hcp : dl ≤ cp := by have := AL3.oc.2.2; have := HDV.out.2.1; omega
  have HCP : Hid (m ≤ cF ∧ dl ≤ cp) := ⟨hcF2, hcp⟩
  clear HC1 o1 b1 hrl H0 HW0 hcF hcm hg1 HB1 R1 ow1 ow2 bl1 bl2 bl3 hg s2 AL3 HT hcF2 hcp
  obtain ⟨H1, N1, E1, h1, T1c, T1r⟩ : ∃ H N, ∃ E : Nat, H.length = 20 ∧ Hid (∀ X, Below W3.heap.size W3 X → Calls Tryz.prog 5 #[.string n, .slice (some ⟨p, 0, none⟩) dl cp, .slice (some ⟨g, 0, none⟩) m cF] X fun e w' => e = .returned (.tuple #[.agg (lab H N), .int .i64 ((E : Nat) : Int)]) ∧ Below X.heap.size X w') ∧ Hid (∀ X, Below W3.heap.size W3 X → Calls Tryz.prog 6 #[.string n, .slice qd dl cd, .slice q m c] X fun e w' => e = .returned (.tuple #[.agg (lab H N), .int .i64 ((E : Nat) : Int)]) ∧ Below X.heap.size X w') := by
    refine ⟨cH (fgT f (sha d) (sha_len d) (sha_byt d) n), cN (fgT f (sha d) (sha_len d) (sha_byt d) n), chkV (fgT f (sha d) (sha_len d) (sha_byt d) n), cH_len (fgT f (sha d) (sha_len d) (sha_byt d) n), fun X h => ?_, fun X h => ?_⟩
    · have a := HAL.out X h
      have := text_any (fV f (.slice (some ⟨g, 0, none⟩) f.L.length cF)) d (by have := HDV.out; omega) HBY.out.1 _ n X a.tk a.tx a.tb a.fcl a.oc.1
      rw [callV_eq] at this
      rw [HVV.out.2, HDV.out.2.1]
      exact this
    · have a := HAL.out X h
      have := textR_any f d (by have := HDV.out; omega) HBY.out.1 dv n X a.tr a.sz (by have := HDV.out; have := HVV.out; omega) a.ls a.by_
      rw [HVV.out.1, HDV.out.1] at this
      exact this
  obtain ⟨H2, N2, E2, h2, T2c, T2r⟩ : ∃ H N, ∃ E : Nat, H.length = 20 ∧ Hid (∀ X, Below W3.heap.size W3 X → Calls Tryz.prog 7 #[.string n, .agg (bs Z), .slice (some ⟨g, 0, none⟩) m cF, .bool sf] X fun e w' => e = .returned (.tuple #[.agg (lab H N), .int .i64 ((E : Nat) : Int)]) ∧ Below X.heap.size X w') ∧ Hid (∀ X, Below W3.heap.size W3 X → Calls Tryz.prog 8 #[.string n, .agg (bs Z), .slice q m c, .bool sf] X fun e w' => e = .returned (.tuple #[.agg (lab H N), .int .i64 ((E : Nat) : Int)]) ∧ Below X.heap.size X w') := by
    refine ⟨cH (fgS f sf Z HBY.out.2.1 HBY.out.2.2 n), cN (fgS f sf Z HBY.out.2.1 HBY.out.2.2 n), chkV (fgS f sf Z HBY.out.2.1 HBY.out.2.2 n), cH_len (fgS f sf Z HBY.out.2.1 HBY.out.2.2 n), fun X h => ?_, fun X h => ?_⟩
    · have a := HAL.out X h
      have := source_any (fV f (.slice (some ⟨g, 0, none⟩) f.L.length cF)) sf Z HBY.out.2.1 HBY.out.2.2 n X a.tk a.tx a.tb a.fcl
      rw [callV_eq] at this
      rw [HVV.out.2]
      exact this
    · have a := HAL.out X h
      have := sourceR_any f sf Z HBY.out.2.1 HBY.out.2.2 n X a.tr a.sz (by have := HDV.out; have := HVV.out; omega) a.ls
      rw [HVV.out.1] at this
      exact this
  obtain ⟨H3, N3, E3, h3, T3c, T3r⟩ : ∃ H N, ∃ E : Nat, H.length = 20 ∧ Hid (∀ X, Below W3.heap.size W3 X → Calls Tryz.prog 10 #[.string n, .agg (bs Z), .bool sf] X fun e w' => e = .returned (.tuple #[.agg (lab H N), .int .i64 ((E : Nat) : Int)]) ∧ Below X.heap.size X w') ∧ Hid (∀ X, Below W3.heap.size W3 X → Calls Tryz.prog 11 #[.string n, .agg (bs Z), .bool sf] X fun e w' => e = .returned (.tuple #[.agg (lab H N), .int .i64 ((E : Nat) : Int)]) ∧ Below X.heap.size X w') := by
    cases sf with
    | false =>
      refine ⟨cH (fgS fgN false Z HBY.out.2.1 HBY.out.2.2 n), cN (fgS fgN false Z HBY.out.2.1 HBY.out.2.2 n), chkV (fgS fgN false Z HBY.out.2.1 HBY.out.2.2 n), cH_len (fgS fgN false Z HBY.out.2.1 HBY.out.2.2 n), fun X h => ?_, fun X h => ?_⟩
      · have a := HAL.out X h
        have := fixed_f Z HBY.out.2.1 HBY.out.2.2 n X a.tk a.tx a.tb
        rw [callV_eq] at this
        exact this
      · have a := HAL.out X h
        exact fixedR_f Z HBY.out.2.1 HBY.out.2.2 n X a.tr a.sz
    | true =>
      refine ⟨cH (fgO (fixZ Z) (sha_len _) (sha_byt _) n), cN (fgO (fixZ Z) (sha_len _) (sha_byt _) n), chkV (fgO (fixZ Z) (sha_len _) (sha_byt _) n), cH_len (fgO (fixZ Z) (sha_len _) (sha_byt _) n), fun X h => ?_, fun X h => ?_⟩
      · have a := HAL.out X h
        have := fixed_t Z HBY.out.2.1 HBY.out.2.2 n X a.tk a.tx a.tb
        rw [callV_eq] at this
        exact this
      · have a := HAL.out X h
        exact fixedR_t Z HBY.out.2.1 HBY.out.2.2 n X a.tr a.sz
  obtain ⟨H4, N4, E4, h4, T4c, T4r⟩ : ∃ H N, ∃ E : Nat, H.length = 20 ∧ Hid (∀ X, Below W3.heap.size W3 X → Calls Tryz.prog 12 #[.agg (bs Z), .string o, .string n] X fun e w' => e = .returned (.tuple #[.agg (lab H N), .int .i64 ((E : Nat) : Int)]) ∧ Below X.heap.size X w') ∧ Hid (∀ X, Below W3.heap.size W3 X → Calls Tryz.prog 13 #[.agg (bs Z), .string o, .string n] X fun e w' => e = .returned (.tuple #[.agg (lab H N), .int .i64 ((E : Nat) : Int)]) ∧ Below X.heap.size X w') := by
    refine ⟨oH o n Z HBY.out.2.1 HBY.out.2.2, oN o n Z HBY.out.2.1 HBY.out.2.2, oE o n Z HBY.out.2.1 HBY.out.2.2, oH_len o n Z HBY.out.2.1 HBY.out.2.2, fun X h => ?_, fun X h => ?_⟩
    · have a := HAL.out X h
      exact output_c o n Z HBY.out.2.1 HBY.out.2.2 X a.tk a.tx a.tb
    · have a := HAL.out X h
      exact outputR_c o n Z HBY.out.2.1 HBY.out.2.2 X a.tr a.sz
  obtain ⟨H5, N5, E5, h5, T5c, T5r⟩ : ∃ H N, ∃ E : Nat, H.length = 20 ∧ Hid (∀ X, Below W3.heap.size W3 X → Calls Tryz.prog 14 #[.agg (bs Z), .int .i64 ix, .string n] X fun e w' => e = .returned (.tuple #[.agg (lab H N), .int .i64 ((E : Nat) : Int)]) ∧ Below X.heap.size X w') ∧ Hid (∀ X, Below W3.heap.size W3 X → Calls Tryz.prog 15 #[.agg (bs Z), .int .i64 ix, .string n] X fun e w' => e = .returned (.tuple #[.agg (lab H N), .int .i64 ((E : Nat) : Int)]) ∧ Below X.heap.size X w') := by
    refine ⟨cH (fgM ix hi Z HBY.out.2.1 HBY.out.2.2 n), cN (fgM ix hi Z HBY.out.2.1 HBY.out.2.2 n), chkV (fgM ix hi Z HBY.out.2.1 HBY.out.2.2 n), cH_len (fgM ix hi Z HBY.out.2.1 HBY.out.2.2 n), fun X h => ?_, fun X h => ?_⟩
    · have a := HAL.out X h
      have := member_any ix hi Z HBY.out.2.1 HBY.out.2.2 n X a.tk a.tx a.tb
      rw [callV_eq] at this
      exact this
    · have a := HAL.out X h
      exact memberR_any ix hi Z HBY.out.2.1 HBY.out.2.2 n X a.tr a.sz
  have KE : Hid (∀ X, Below W3.heap.size W3 X → Calls Tryz.prog 9 #[.slice (some ⟨g, 0, none⟩) (m + 2) cF, .slice q m c] X fun e w' => e = .returned (.bool true) ∧ Below X.heap.size X w') := fun X h => by
    have a := HAL.out X h
    have := kept_any f.L (by have := HDV.out; have := HVV.out; omega) g cF (.slice q m c) X a.gx a.fl a.fc.1 a.fc.2 (by rw [← HVV.out.1]; exact a.ls)
    rw [← HVV.out.2] at this
    exact this
  have HL : Hid (H1.length = 20 ∧ H2.length = 20 ∧ H3.length = 20 ∧ H4.length = 20 ∧ H5.length = 20) := ⟨h1, h2, h3, h4, h5⟩
  have HLS : Hid (∀ X, Below W3.heap.size W3 X → (loadR 24 (.pointer (some ⟨w.heap.size, 0, none⟩))).run Tryz.prog X = .ok (.agg (bs Z)) X) := fun X h => run_ldS X w.heap.size Z (HAL.out X h).gs HBY.out.2.1
  clear h1 h2 h3 h4 h5 hi hZ bZ
  have cuL := fun X : World => run_cuth X g 0 (m + 2) cF m HCP.out.1
  have cuB : ∀ X : World, (slR (.slice (some ⟨p, 0, none⟩) (dl + 1) cp) none (some (.int .i64 (dl : Int))) none).run Tryz.prog X = .ok (.slice (some ⟨p, 0, none⟩) dl cp) X := fun X => by
    have := run_cut_h X (some ⟨p, 0, none⟩) (dl + 1) cp dl HCP.out.2
    rw [this]
    unfold sliced
    simp
    intro _
    rfl
  go_upto_region 5 with fail
  clear s1 s2'
  go_cut [17, 18] (fun s17 s18 wc => ∃ ga, s17 = .pointer (some ⟨ga, 0, none⟩) ∧ s18 = .int .i64 (E1 : Int) ∧ Hid (Below W3.heap.size W3 wc ∧ wc.heap[ga]? = some (.cells (lab H1 N1) 30 (0, 0)) ∧ W3.heap.size ≤ ga))
  case first =>
    have HD : Hid (Below W3.heap.size W3 W3.drew) := below_drew W3
    go_region_with (first
      | (go_at_call 5; refine (T1c.out W3.drew HD.out).mono ?_; rintro e W4 ⟨rfl, b4⟩; obtain ⟨W5, s5, r5, b5⟩ := layL W4 H1 N1 HL.out.1; have HF : Hid (Below W3.heap.size W3 W5 ∧ W5.heap[W4.heap.size]? = some (.cells (lab H1 N1) 30 (0, 0)) ∧ W3.heap.size ≤ W4.heap.size) := (have q := HD.out.trans (b4.mono HD.out.size); ⟨q.trans (b5.mono q.size), r5, q.size⟩); clear b4 r5 b5)
      | (go_at_call 5; refine (T1c.out _ ?_).mono ?_; exact ((Below.refl _ W3).alloc (Nat.le_refl _) _).trans ((below_drew _).mono (by simp)); rintro e W4 ⟨rfl, b4⟩; have r4 : W4.heap[W3.heap.size]? = some (.cells none25 30 (0, 0)) := (b4.block W3.heap.size (by simp)).trans (heap_alloc_new W3 _); have st := run_storeR25 W4 W3.heap.size z20 H1 ⟨#[]⟩ N1 r4 rfl HL.out.1; have HF : Hid (Below W3.heap.size W3 (W4.setRow W3.heap.size (lab H1 N1)) ∧ (W4.setRow W3.heap.size (lab H1 N1)).heap[W3.heap.size]? = some (.cells (lab H1 N1) 30 (0, 0)) ∧ W3.heap.size ≤ W3.heap.size) := (have q := ((Below.refl _ W3).alloc (Nat.le_refl _) (.cells none25 30)).trans ((below_drew _).mono (by simp)); ⟨below_setRow (q.trans (b4.mono q.size)) (Nat.le_refl _) _, setRow_heap _ _ _ _ _ _ r4, Nat.le_refl _⟩); clear b4 r4))
    all_goals (go_wp2_with fail; go_meet; exact ⟨_, rfl, rfl, HF⟩)
  case rest =>
    obtain ⟨ga, rfl, rfl, HG⟩ := hcut
    have C2 : Hid _ := T1r.out wc HG.out.1
    clear T1c T1r
    go_wp2_with fail
    refine Calls.mono C2.out ?_
    rintro e W4 ⟨rfl, b4⟩
    obtain ⟨W5, s5, r5, b5⟩ := layL W4 H1 N1 HL.out.1
    have G5 : Hid (Gm W3 ga W4.heap.size (lab H1 N1) (lab H1 N1) W5) := by
      obtain ⟨e1, e2, e3⟩ := HG.out
      have q := b4.trans (b5.mono b4.size)
      have l1 := (Array.getElem?_eq_some_iff.1 e2).1
      have l2 := b4.size
      have l3 := e1.size
      exact ⟨e1.trans (q.mono e1.size), (q.block _ l1).trans e2, r5, e3, by omega, by omega⟩
    clear C2 b4 b5 r5 HG
    go_upto_region 7 with fail
    obtain ⟨gb, hgb⟩ : ∃ gb, W4.heap.size = gb := ⟨_, rfl⟩
    rw [hgb]
    rw [hgb] at G5
    clear s5 hgb
    have me := fun X => eq_same H1 N1 HL.out.1 X
    have la := fun k : Nat => run_loadR25 (W5.drewN k) ga H1 N1 G5.out.a HL.out.1
    have lb := fun k : Nat => run_loadR25 (W5.drewN k) gb H1 N1 G5.out.b HL.out.1
    obtain ⟨sT, hsT⟩ : ∃ s, txt d = .string s := ⟨_, rfl⟩
    have HBD : Hid (∀ k, Below W3.heap.size W3 (W5.drewN k)) := fun k => ⟨G5.out.bel.os, G5.out.bel.tape, G5.out.bel.output, G5.out.bel.size, G5.out.bel.block⟩
    have v1 : ∀ k, (cvS (.slice (some ⟨p, 0, none⟩) dl cp)).run Tryz.prog (W5.drewN k) = .ok (.string sT) (W5.drewN k) := fun k => by
      have := conv_byl (HAL.out _ (HBD.out k)).oc.1 9 Tryz.underlying9
      rw [← HDV.out.2.1, hsT] at this
      exact this
    have v2 : ∀ k, (cvS (.slice qd dl cd)).run Tryz.prog (W5.drewN k) = .ok (.string sT) (W5.drewN k) := fun k => by
      have := conv_byl (HAL.out _ (HBD.out k)).by_ 9 Tryz.underlying9
      rw [HDV.out.1, hsT] at this
      exact this
    have cl : W5.cell? ⟨p, dl, none⟩ = some (.int .u8 90) := by rw [HDV.out.2.1]; exact (HAL.out W5 G5.out.bel).oc.2.1
    have i0 : (0 : Int) ≤ (dl : Int) := by omega
    have i1 : (dl : Int) < ((dl + 1 : Nat) : Int) := by omega
    have i2 : (dl : Int) < (dl : Int) + 1 := by omega
    clear hsT
    go_quiet (fail)
    obtain ⟨W6, hW6⟩ : ∃ W6, W6 = W5.drewN nq := ⟨_, rfl⟩
    rw [← hW6]
    have G6 : Hid (Gm W3 ga gb (lab H1 N1) (lab H1 N1) W6) := by rw [hW6]; exact ⟨HBD.out nq, G5.out.a, G5.out.b, G5.out.sa⟩
    clear hW6 me la lb v1 v2 cl i0 i1 i2 HBD G5 cuB
    go_upto_region 9 with fail
    go_cut [18] (fun s18 wc => s18 = .int .i64 (E2 : Int) ∧ Hid (Gm W3 ga gb (lab H2 N2) (lab H1 N1) wc))
    case first =>
      have GD : Hid (Gm W3 ga gb (lab H1 N1) (lab H1 N1) W6.drew) := G6.out.below (below_drew W6)
      have ls := HLS.out W6.drew GD.out.bel
      go_region_with ((go_at_call 7; refine (T2c.out W6.drew GD.out.bel).mono ?_; rintro e W7 ⟨rfl, b7⟩; have G7 := GD.out.below b7; have st := run_storeR25 W7 ga H1 H2 N1 N2 G7.a HL.out.1 HL.out.2.1; have HF : Hid (Gm W3 ga gb (lab H2 N2) (lab H1 N1) (W7.setRow ga (lab H2 N2))) := G7.setA _; clear b7 G7))
      all_goals (go_wp2_with fail; go_meet; exact ⟨rfl, HF⟩)
    case rest =>
      obtain ⟨rfl, Gx⟩ := hcut
      clear G6 T2c cuL
      have ls2 := HLS.out wc Gx.out.bel
      have C2 : Hid _ := T2r.out wc Gx.out.bel
      clear T2r
      go_wp2_with fail
      refine Calls.mono C2.out ?_
      rintro e Y2 ⟨rfl, c2⟩
      have Gc := Gx.out.below c2
      have st2 := run_storeR25 Y2 gb H1 H2 N1 N2 Gc.b HL.out.1 HL.out.2.1
      have Gd2 : Hid (Gm W3 ga gb (lab H2 N2) (lab H2 N2) (Y2.setRow gb (lab H2 N2))) := Gc.setB _
      have la2 := run_loadR25 (Y2.setRow gb (lab H2 N2)) ga H2 N2 Gd2.out.a HL.out.2.1
      have lb2 := run_loadR25 (Y2.setRow gb (lab H2 N2)) gb H2 N2 Gd2.out.b HL.out.2.1
      have me2 := fun X => eq_same H2 N2 HL.out.2.1 X
      clear C2 c2 Gc ls2 Gx
      have CK : Hid _ := KE.out (Y2.setRow gb (lab H2 N2)) Gd2.out.bel
      clear KE
      go_wp2_with fail
      refine Calls.mono CK.out ?_
      rintro e WK ⟨rfl, bK⟩
      have GK : Hid (Gm W3 ga gb (lab H2 N2) (lab H2 N2) WK) := Gd2.out.below bK
      clear CK bK la2 lb2 me2 st2 Gd2
      have ls3 := HLS.out (WK) GK.out.bel
      have C3 : Hid _ := T3c.out (WK) GK.out.bel
      clear T3c
      go_wp2_with fail
      refine Calls.mono C3.out ?_
      rintro e X3 ⟨rfl, c3⟩
      have Gc := GK.out.below c3
      have st3 := run_storeR25 X3 ga H2 H3 N2 N3 Gc.a HL.out.2.1 HL.out.2.2.1
      have Ge3 : Hid (Gm W3 ga gb (lab H3 N3) (lab H2 N2) (X3.setRow ga (lab H3 N3))) := Gc.setA _
      clear C3 c3 Gc ls3 GK 
      have ls3 := HLS.out (X3.setRow ga (lab H3 N3)) Ge3.out.bel
      have C3 : Hid _ := T3r.out (X3.setRow ga (lab H3 N3)) Ge3.out.bel
      clear T3r
      go_wp2_with fail
      refine Calls.mono C3.out ?_
      rintro e Y3 ⟨rfl, c3⟩
      have Gc := Ge3.out.below c3
      have st3 := run_storeR25 Y3 gb H2 H3 N2 N3 Gc.b HL.out.2.1 HL.out.2.2.1
      have Gd3 : Hid (Gm W3 ga gb (lab H3 N3) (lab H3 N3) (Y3.setRow gb (lab H3 N3))) := Gc.setB _
      have la3 := run_loadR25 (Y3.setRow gb (lab H3 N3)) ga H3 N3 Gd3.out.a HL.out.2.2.1
      have lb3 := run_loadR25 (Y3.setRow gb (lab H3 N3)) gb H3 N3 Gd3.out.b HL.out.2.2.1
      have me3 := fun X => eq_same H3 N3 HL.out.2.2.1 X
      clear C3 c3 Gc ls3 Ge3
      skip
      have ls4 := HLS.out (Y3.setRow gb (lab H3 N3)) Gd3.out.bel
      have C4 : Hid _ := T4c.out (Y3.setRow gb (lab H3 N3)) Gd3.out.bel
      clear T4c
      go_wp2_with fail
      refine Calls.mono C4.out ?_
      rintro e X4 ⟨rfl, c4⟩
      have Gc := Gd3.out.below c4
      have st4 := run_storeR25 X4 ga H3 H4 N3 N4 Gc.a HL.out.2.2.1 HL.out.2.2.2.1
      have Ge4 : Hid (Gm W3 ga gb (lab H4 N4) (lab H3 N3) (X4.setRow ga (lab H4 N4))) := Gc.setA _
      clear C4 c4 Gc ls4 Gd3 la3 lb3 me3 st3
      have ls4 := HLS.out (X4.setRow ga (lab H4 N4)) Ge4.out.bel
      have C4 : Hid _ := T4r.out (X4.setRow ga (lab H4 N4)) Ge4.out.bel
      clear T4r
      go_wp2_with fail
      refine Calls.mono C4.out ?_
      rintro e Y4 ⟨rfl, c4⟩
      have Gc := Ge4.out.below c4
      have st4 := run_storeR25 Y4 gb H3 H4 N3 N4 Gc.b HL.out.2.2.1 HL.out.2.2.2.1
      have Gd4 : Hid (Gm W3 ga gb (lab H4 N4) (lab H4 N4) (Y4.setRow gb (lab H4 N4))) := Gc.setB _
      have la4 := run_loadR25 (Y4.setRow gb (lab H4 N4)) ga H4 N4 Gd4.out.a HL.out.2.2.2.1
      have lb4 := run_loadR25 (Y4.setRow gb (lab H4 N4)) gb H4 N4 Gd4.out.b HL.out.2.2.2.1
      have me4 := fun X => eq_same H4 N4 HL.out.2.2.2.1 X
      clear C4 c4 Gc ls4 Ge4
      have ls5 := HLS.out (Y4.setRow gb (lab H4 N4)) Gd4.out.bel
      have C5 : Hid _ := T5c.out (Y4.setRow gb (lab H4 N4)) Gd4.out.bel
      clear T5c
      go_wp2_with fail
      refine Calls.mono C5.out ?_
      rintro e X5 ⟨rfl, c5⟩
      have Gc := Gd4.out.below c5
      have st5 := run_storeR25 X5 ga H4 H5 N4 N5 Gc.a HL.out.2.2.2.1 HL.out.2.2.2.2
      have Ge5 : Hid (Gm W3 ga gb (lab H5 N5) (lab H4 N4) (X5.setRow ga (lab H5 N5))) := Gc.setA _
      clear C5 c5 Gc ls5 Gd4 la4 lb4 me4 st4
      have ls5 := HLS.out (X5.setRow ga (lab H5 N5)) Ge5.out.bel
      have C5 : Hid _ := T5r.out (X5.setRow ga (lab H5 N5)) Ge5.out.bel
      clear T5r
      go_wp2_with fail
      refine Calls.mono C5.out ?_
      rintro e Y5 ⟨rfl, c5⟩
      have Gc := Ge5.out.below c5
      have st5 := run_storeR25 Y5 gb H4 H5 N4 N5 Gc.b HL.out.2.2.2.1 HL.out.2.2.2.2
      have Gd5 : Hid (Gm W3 ga gb (lab H5 N5) (lab H5 N5) (Y5.setRow gb (lab H5 N5))) := Gc.setB _
      have la5 := run_loadR25 (Y5.setRow gb (lab H5 N5)) ga H5 N5 Gd5.out.a HL.out.2.2.2.2
      have lb5 := run_loadR25 (Y5.setRow gb (lab H5 N5)) gb H5 N5 Gd5.out.b HL.out.2.2.2.2
      have me5 := fun X => eq_same H5 N5 HL.out.2.2.2.2 X
      clear C5 c5 Gc ls5 Ge5
      have HFIN : Hid (Below w.heap.size w (Y5.setRow gb (lab H5 N5))) := (HAL.out _ Gd5.out.bel).bel
      go_wp2
      go_ret
      exact ⟨rfl, HFIN.out⟩
end Go.Proofs.YteajpimonenopaaGreatDoor
