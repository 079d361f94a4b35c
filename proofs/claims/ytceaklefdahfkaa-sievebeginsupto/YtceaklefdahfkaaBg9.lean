/- SieveBegins: the walk. -/
import Derived.Test.YtceaklefdahfkaaBg8
namespace Go.Proofs.Ytceaklefdahfkaa
open Go.RowKit
attribute [local go_sem ↓] toSlB
set_option maxRecDepth 100000 in
set_option maxHeartbeats 1600000 in
theorem begins_any (l : List ByteArray) (hl : l.length ≤ 1073741824) (hz : ∀ s ∈ l, s.size ≤ 1073741824) (d : List Nat) (hd : d.length ≤ 1048576) (hdb : Byt d) (v0 v1 : Value) (w : World) (h0 : St v0 l w) (h1 : Si .u8 v1 d w) :
    Calls Try.prog 7 #[v0, v1] w fun e w' => e = .returned (.bool true) ∧ Below w.heap.size w w' := by
  have CM : Hid _ := made_any l hl hz v0 w h0
  have HV : Hid (Si .u8 v1 d w) := h1
  obtain ⟨o0, c0, rfl, _⟩ := h0.form
  obtain ⟨o1, c1, rfl, _⟩ := h1.form
  have HDB : Hid _ := hdb
  clear h0 h1 hz hdb
  go_enter Try.func7, Try.ntmps7
  go_wp2_with fail
  refine Calls.mono CM.out ?_
  rintro e w1 ⟨p, q, rfl, hbo, hb1⟩
  clear CM
  obtain ⟨n, m, H, hA⟩ := ans_any d hd HDB.out hbo
  have HA : Hid (Ans p q n m d H w1) := hA
  have HV1 : Hid (Si .u8 (.slice o1 d.length c1) d w1) := HV.out.below hb1
  have HB1 : Hid (Below w.heap.size w w1) := hb1
  clear hbo hb1 hA HV
  have CR : Hid _ := roomy_any d (by omega) _ w1 HV1.out
  have C1 : Hid _ := HA.out.l1 w1 (Below.refl _ _)
  have C2 : Hid _ := HA.out.l2 w1 (Below.refl _ _)
  have C3 : Hid _ := HA.out.w1 w1 (Below.refl _ _)
  have C4 : Hid _ := HA.out.w2 w1 (Below.refl _ _)
  go_wp2_with fail
  refine Calls.mono C1.out ?_
  rintro e w1 ⟨rfl, rfl⟩
  clear C1
  go_wp2_with fail
  refine Calls.mono C2.out ?_
  rintro e w1 ⟨rfl, rfl⟩
  clear C2
  go_wp2_with fail
  refine Calls.mono C3.out ?_
  rintro e w1 ⟨rfl, rfl⟩
  clear C3
  go_wp2_with fail
  refine Calls.mono C4.out ?_
  rintro e w1 ⟨rfl, rfl⟩
  clear C4
  go_wp2_with fail
  refine Calls.mono CR.out ?_
  rintro e w2 ⟨u, rfl, hu2, hb2⟩
  clear CR
  obtain ⟨o, c, rfl, hc1, hc2, hf⟩ := hu2.form
  obtain ⟨b, off, rfl, hb, hcl⟩ := hf (by simp)
  have e0 : (d ++ [90, 165]).length = d.length + 2 := by simp
  rw [e0] at hc1 ⊢
  have ct := run_cutH b off (d.length + 2) c d.length (by omega)
  have HU2 : Hid (Si .u8 (.slice (some ⟨b, off, none⟩) (d.length + 2) c) (d ++ [90, 165]) w2) := by rw [e0] at hu2; exact hu2
  have HV2 : Hid (Si .u8 (.slice o1 d.length c1) d w2) := HV1.out.below hb2
  have HB2 : Hid (Below w.heap.size w w2) := HB1.out.trans (hb2.mono HB1.out.size)
  have HB12 : Hid (Below w1.heap.size w1 w2) := hb2
  have CS1 : Hid _ := HA.out.s1 w2 _ hb2 hu2.cut
  obtain ⟨N, hN⟩ : ∃ N, N = d.length + 2 := ⟨_, rfl⟩
  rw [← hN] at ct HU2 ⊢
  clear hu2 hb2 hc1 hc2 hf hcl hb e0 hN HV1 HB1
  go_wp2_with fail
  refine Calls.mono CS1.out ?_
  rintro e w3 ⟨x, rfl, hx, hb3⟩
  clear CS1
  have HB3 : Hid (Below w.heap.size w w3) := HB2.out.trans (hb3.mono HB2.out.size)
  have HB13 : Hid (Below w1.heap.size w1 w3) := HB12.out.trans (hb3.mono HB12.out.size)
  have HU3 : Hid (Si .u8 (.slice (some ⟨b, off, none⟩) N c) (d ++ [90, 165]) w3) := HU2.out.below hb3
  have HV3 : Hid (Si .u8 (.slice o1 d.length c1) d w3) := HV2.out.below hb3
  have HX3 : Hid (Hl x H w3) := hx
  have CS2 : Hid _ := HA.out.s2 w3 _ HB13.out HV3.out
  clear HB2 HU2 HV2 HB12 hb3 hx HA
  go_wp2_with fail
  refine Calls.mono CS2.out ?_
  rintro e w4 ⟨y, rfl, hy, hb4⟩
  clear CS2
  have HB4 : Hid (Below w.heap.size w w4) := HB3.out.trans (hb4.mono HB3.out.size)
  have HU4 : Hid (Si .u8 (.slice (some ⟨b, off, none⟩) N c) (d ++ [90, 165]) w4) := HU3.out.below hb4
  have HV4 : Hid (Si .u8 (.slice o1 d.length c1) d w4) := HV3.out.below hb4
  have CH : Hid _ := same_any H x y w4 (HX3.out.keep hb4.size fun j hj => hb4.block j hj) hy
  clear HB3 HU3 HV3 HB13 hb4 hy HX3
  go_wp2_with fail
  refine Calls.mono CH.out ?_
  rintro e w5 ⟨rfl, hb5⟩
  clear CH
  have HB5 : Hid (Below w.heap.size w w5) := HB4.out.trans (hb5.mono HB4.out.size)
  have CK : Hid _ := kept_any d (by omega) _ _ w5 (HU4.out.below hb5) (HV4.out.below hb5)
  clear HB4 HU4 HV4 hb5
  go_wp2_with fail
  refine Calls.mono CK.out ?_
  rintro e w6 ⟨rfl, hb6⟩
  clear CK
  have HB6 : Hid (Below w.heap.size w w6) := HB5.out.trans (hb6.mono HB5.out.size)
  clear HB5 hb6
  go_wp2
  go_ret
  exact ⟨rfl, HB6.out⟩
end Go.Proofs.Ytceaklefdahfkaa
