import Derived.Test.YtkppejaigodgiaaDoorMac
import Derived.Test.YtkppejaigodgiaaDoorMix
import Derived.Test.YtkppejaigodgiaaDoorTab
namespace Go.Proofs.YtkppejaigodgiaaDoor
open Go.RowKit
/- Sums of given messages, worked out by the kernel: each number is laid down as a literal before it is used again. -/
noncomputable def force {α : Type} (n : Nat) (k : Nat → α) : α := Nat.rec (k 0) (fun m _ => k (m + 1)) n
theorem force_eq {α : Type} (n : Nat) (k : Nat → α) : force n k = k n := by cases n <;> rfl
noncomputable def forceL {α : Type} (l : List Nat) : (List Nat → α) → α := List.rec (fun k => k []) (fun x _ ih k => force x fun y => ih fun r => k (y :: r)) l
theorem forceL_eq {α : Type} : ∀ (l : List Nat) (k : List Nat → α), forceL l k = k l
  | [], _ => rfl
  | x :: r, k => (force_eq x (fun y => forceL r fun r => k (y :: r))).trans (forceL_eq r _)
noncomputable def forceS {α : Type} (s : St) (k : St → α) : α := force s.a fun a => force s.b fun b => force s.c fun c => force s.d fun d => force s.e fun e => force s.f fun f => force s.g fun g => force s.h fun h => k ⟨a, b, c, d, e, f, g, h⟩
theorem forceS_eq {α : Type} (s : St) (k : St → α) : forceS s k = k s := by simp only [forceS, force_eq]
noncomputable def roundsF (ks ws : List Nat) (n : Nat) : Nat → St → St := Nat.rec (fun _ s => s) (fun _ ih i s => forceS (round s (ks.getD i 0) (ws.getD i 0)) fun s' => force (i + 1) fun j => ih j s') n
theorem roundsF_eq (ks ws : List Nat) (s : St) : ∀ n i, roundsF ks ws n i (rounds ks ws s i) = rounds ks ws s (i + n)
  | 0, i => rfl
  | n + 1, i => by
    show forceS _ _ = _
    rw [forceS_eq]
    have := roundsF_eq ks ws s n (i + 1)
    rw [show i + (n + 1) = i + 1 + n by omega, ← this]
    rfl
noncomputable def wF (n : Nat) : Nat → List Nat → List Nat := Nat.rec (fun _ l => l) (fun _ ih i l => forceL (l.set (16 + i) (nextw l (16 + i))) fun l' => force (i + 1) fun j => ih j l') n
theorem wF_eq (blk : List Nat) : ∀ n i, wF n i (w64 blk i) = w64 blk (i + n)
  | 0, i => rfl
  | n + 1, i => by
    show forceL _ _ = _
    rw [forceL_eq, force_eq]
    have := wF_eq blk n (i + 1)
    rw [show i + (n + 1) = i + 1 + n by omega, ← this]
    rfl
noncomputable def mixF (ks l blk : List Nat) : List Nat := forceL (w16 blk 16) fun w0 => forceL (wF 48 0 w0) fun ws => forceS (roundsF ks ws 64 0 (stOf l)) fun s => joinS l s
theorem mixF_eq (ks l blk : List Nat) : mixF ks l blk = mixN ks l blk := by
  unfold mixF
  rw [forceL_eq, forceL_eq, forceS_eq]
  have h1 : wF 48 0 (w16 blk 16) = sched blk := by have := wF_eq blk 48 0; exact this
  have h2 := roundsF_eq ks (sched blk) (stOf l) 64 0
  rw [h1]
  unfold mixN
  rw [show (64 : Nat) = 0 + 64 from rfl, ← h2]
  rfl
noncomputable def absF (ks d : List Nat) (n : Nat) : Nat → List Nat → List Nat := Nat.rec (fun _ st => st) (fun _ ih i st => forceL ((d.drop (64 * i)).take 64) fun blk => forceL (mixF ks st blk) fun st' => force (i + 1) fun j => ih j st') n
theorem absF_eq (ks st d : List Nat) : ∀ n i, absF ks d n i (absN ks st d i) = absN ks st d (i + n)
  | 0, i => rfl
  | n + 1, i => by
    show forceL _ _ = _
    rw [forceL_eq, forceL_eq, force_eq, mixF_eq]
    have := absF_eq ks st d n (i + 1)
    rw [show i + (n + 1) = i + 1 + n by omega, ← this]
    rfl
noncomputable def shaF (ks sn m : List Nat) : List Nat :=
  forceL (absF ks m (m.length / 64) 0 sn) fun st => forceL (m.drop (64 * (m.length / 64))) fun rest => force m.length fun n =>
    forceL (if n % 64 < 56 then forceL (lenk (padR rest (n % 64)) n 8) fun b => mixF ks st b
      else forceL (padR rest (n % 64)) fun b1 => forceL (mixF ks st b1) fun st2 => forceL (lenk (List.replicate 64 0) n 8) fun b2 => mixF ks st2 b2) fun st3 => forceL (sumS st3) fun r => r
theorem shaF_eq (ks sn m : List Nat) : shaF ks sn m = shaN ks sn m := by
  unfold shaF shaN padN
  simp only [forceL_eq, force_eq, mixF_eq]
  have := absF_eq ks sn m (m.length / 64) 0
  rw [Nat.zero_add] at this
  rw [show absF ks m (m.length / 64) 0 sn = absN ks sn m (m.length / 64) from this]
def startN : List Nat := [1779033703, 3144134277, 1013904242, 2773480762, 1359893119, 2600822924, 528734635, 1541459225]
def roundN : List Nat := [1116352408, 1899447441, 3049323471, 3921009573, 961987163, 1508970993, 2453635748, 2870763221, 3624381080, 310598401, 607225278, 1426881987, 1925078388, 2162078206, 2614888103, 3248222580, 3835390401, 4022224774, 264347078, 604807628, 770255983, 1249150122, 1555081692, 1996064986, 2554220882, 2821834349, 2952996808, 3210313671, 3336571891, 3584528711, 113926993, 338241895, 666307205, 773529912, 1294757372, 1396182291, 1695183700, 1986661051, 2177026350, 2456956037, 2730485921, 2820302411, 3259730800, 3345764771, 3516065817, 3600352804, 4094571909, 275423344, 430227734, 506948616, 659060556, 883997877, 958139571, 1322822218, 1537002063, 1747873779, 1955562222, 2024104815, 2227730452, 2361852424, 2428436474, 2756734187, 3204031479, 3329325298]
theorem sum_nil : shaN roundN startN [] = [227, 176, 196, 66, 152, 252, 28, 20, 154, 251, 244, 200, 153, 111, 185, 36, 39, 174, 65, 228, 100, 155, 147, 76, 164, 149, 153, 27, 120, 82, 184, 85] := by
  rw [← shaF_eq]; kernel_rfl
theorem sum_abc : shaN roundN startN [97, 98, 99] = [186, 120, 22, 191, 143, 1, 207, 234, 65, 65, 64, 222, 93, 174, 34, 35, 176, 3, 97, 163, 150, 23, 122, 156, 180, 16, 255, 97, 242, 0, 21, 173] := by
  rw [← shaF_eq]; kernel_rfl
theorem sum_two : shaN roundN startN [97, 98, 99, 100, 98, 99, 100, 101, 99, 100, 101, 102, 100, 101, 102, 103, 101, 102, 103, 104, 102, 103, 104, 105, 103, 104, 105, 106, 104, 105, 106, 107, 105, 106, 107, 108, 106, 107, 108, 109, 107, 108, 109, 110, 108, 109, 110, 111, 109, 110, 111, 112, 110, 111, 112, 113] = [36, 141, 106, 97, 210, 6, 56, 184, 229, 192, 38, 147, 12, 62, 96, 57, 163, 60, 228, 89, 100, 255, 33, 103, 246, 236, 237, 212, 25, 219, 6, 193] := by
  rw [← shaF_eq]; kernel_rfl
theorem sum_many : shaN roundN startN (List.replicate 1000 97) = [65, 237, 236, 228, 45, 99, 232, 217, 191, 81, 90, 155, 166, 147, 46, 28, 32, 203, 201, 245, 165, 209, 52, 100, 90, 219, 93, 177, 185, 115, 126, 163] := by
  rw [← shaF_eq]; kernel_rfl
noncomputable def macF (ks sn key d : List Nat) : List Nat :=
  forceL (if 64 < key.length then shaF ks sn key else key) fun k => forceL (k ++ List.replicate (64 - k.length) 0) fun kb => forceL (kb.map (fun b => b ^^^ 54) ++ d) fun m1 => forceL (shaF ks sn m1) fun s1 => forceL (kb.map (fun b => b ^^^ 92) ++ s1) fun m2 => shaF ks sn m2
theorem macF_eq (ks sn key d : List Nat) : macF ks sn key d = macN ks sn key d := by
  unfold macF macN macT keyB
  simp only [forceL_eq, shaF_eq]
theorem mac_fox : macN roundN startN [107, 101, 121] [84, 104, 101, 32, 113, 117, 105, 99, 107, 32, 98, 114, 111, 119, 110, 32, 102, 111, 120, 32, 106, 117, 109, 112, 115, 32, 111, 118, 101, 114, 32, 116, 104, 101, 32, 108, 97, 122, 121, 32, 100, 111, 103] = [247, 188, 131, 244, 48, 83, 132, 36, 177, 50, 152, 230, 170, 111, 177, 67, 239, 77, 89, 161, 73, 70, 23, 89, 151, 71, 157, 188, 45, 26, 60, 216] := by
  rw [← macF_eq]; kernel_rfl
theorem mac_none : macN roundN startN [] [] = [182, 19, 103, 154, 8, 20, 217, 236, 119, 47, 149, 215, 120, 195, 95, 197, 255, 22, 151, 196, 147, 113, 86, 83, 198, 199, 18, 20, 66, 146, 197, 173] := by
  rw [← macF_eq]; kernel_rfl
theorem roundN_wrd : Wrd roundN := by unfold Wrd roundN; decide
theorem startN_wrd : Wrd startN := by unfold Wrd startN; decide
theorem mixOK : MixOK roundN := fun st blk hst hsw hb b off cap hcap hmax w hlt hg1 hc hK => mix_any roundN st blk hst hsw roundN_wrd hb b off cap hcap hmax w hlt hg1 hc hK
/-- The two tables lie where they lie. -/
structure Tb (w : World) : Prop where
  sz : 1 < w.heap.size
  s : ∀ j, j < 8 → w.cell? ⟨0, j, none⟩ = some (.int .u32 ((startN.getD j 0 : Nat) : Int))
  k : ∀ j, j < 64 → w.cell? ⟨1, j, none⟩ = some (.int .u32 ((roundN.getD j 0 : Nat) : Int))
theorem Tb.below {w w' : World} (h : Tb w) {B : Nat} (hb : Below B w w') (hB : 1 < B) : Tb w' :=
  ⟨Nat.lt_of_lt_of_le h.sz hb.size, fun j hj => (World.cell?_of_block (w := w) (hb.block 0 (by omega))).trans (h.s j hj), fun j hj => (World.cell?_of_block (w := w) (hb.block 1 hB)).trans (h.k j hj)⟩
theorem start_eq : ∀ j, j < 8 → startZ.getD j 0 = ((startN.getD j 0 : Nat) : Int) := by decide
theorem round_eq : ∀ j, j < 64 → roundZ.getD j 0 = ((roundN.getD j 0 : Nat) : Int) := by decide
theorem tb_of_laid {W : World} (h : laidMetH Tryd.prog laid2 W) : Tb W := by
  refine ⟨?_, fun j hj => by rw [cellStart h j hj, start_eq j hj], fun j hj => by rw [cellRound h j hj, round_eq j hj]⟩
  exact World.block_lt_of_cell? W ⟨1, 0, none⟩ (cellRound h 0 (by decide))
/-- The sum of a message. -/
noncomputable def sha (m : List Nat) : List Nat := shaN roundN startN m
theorem of_tb (d : List Nat) (v : Value) (hn : d.length ≤ 1152921504606846976) (hdb : Byt d) (w : World) (ht : Tb w) (hv : Byl v d w) :
    Calls Tryd.prog 15 #[v] w fun e w' => e = .returned (.agg (bs (sha d))) ∧ Below w.heap.size w w' :=
  of_any roundN startN mixOK rfl startN_wrd d v hn hdb w ht.sz hv ht.s ht.k
theorem mac_tb (key d : List Nat) (kv dv : Value) (hkb : Byt key) (hdb : Byt d) (hkl : key.length ≤ 1152921504606846976) (hdl : 64 + d.length ≤ 1152921504606846976) (w : World) (ht : Tb w) (hk : Byl kv key w) (hd : Byl dv d w) :
    Calls Tryd.prog 16 #[kv, dv] w fun e w' => e = .returned (.agg (bs (macN roundN startN key d))) ∧ Below w.heap.size w w' :=
  mac_any roundN startN mixOK rfl startN_wrd key d kv dv hkb hdb hkl hdl w ht.sz hk hd ht.s ht.k
theorem hex_nil (w : World) : Calls Tryd.prog 14 #[.agg (bs (sha []))] w fun e w' => e = .returned (.string ⟨#[101, 51, 98, 48, 99, 52, 52, 50, 57, 56, 102, 99, 49, 99, 49, 52, 57, 97, 102, 98, 102, 52, 99, 56, 57, 57, 54, 102, 98, 57, 50, 52, 50, 55, 97, 101, 52, 49, 101, 52, 54, 52, 57, 98, 57, 51, 52, 99, 97, 52, 57, 53, 57, 57, 49, 98, 55, 56, 53, 50, 98, 56, 53, 53]⟩) ∧ Below w.heap.size w w' := by
  unfold sha
  rw [sum_nil]
  refine (hex_any _ rfl (by unfold Byt; decide) w).mono fun e w1 ⟨he, hb⟩ => ⟨?_, hb⟩
  rw [he]
  kernel_rfl
theorem hex_abc (w : World) : Calls Tryd.prog 14 #[.agg (bs (sha [97, 98, 99]))] w fun e w' => e = .returned (.string ⟨#[98, 97, 55, 56, 49, 54, 98, 102, 56, 102, 48, 49, 99, 102, 101, 97, 52, 49, 52, 49, 52, 48, 100, 101, 53, 100, 97, 101, 50, 50, 50, 51, 98, 48, 48, 51, 54, 49, 97, 51, 57, 54, 49, 55, 55, 97, 57, 99, 98, 52, 49, 48, 102, 102, 54, 49, 102, 50, 48, 48, 49, 53, 97, 100]⟩) ∧ Below w.heap.size w w' := by
  unfold sha
  rw [sum_abc]
  refine (hex_any _ rfl (by unfold Byt; decide) w).mono fun e w1 ⟨he, hb⟩ => ⟨?_, hb⟩
  rw [he]
  kernel_rfl
theorem hex_two (w : World) : Calls Tryd.prog 14 #[.agg (bs (sha [97, 98, 99, 100, 98, 99, 100, 101, 99, 100, 101, 102, 100, 101, 102, 103, 101, 102, 103, 104, 102, 103, 104, 105, 103, 104, 105, 106, 104, 105, 106, 107, 105, 106, 107, 108, 106, 107, 108, 109, 107, 108, 109, 110, 108, 109, 110, 111, 109, 110, 111, 112, 110, 111, 112, 113]))] w fun e w' => e = .returned (.string ⟨#[50, 52, 56, 100, 54, 97, 54, 49, 100, 50, 48, 54, 51, 56, 98, 56, 101, 53, 99, 48, 50, 54, 57, 51, 48, 99, 51, 101, 54, 48, 51, 57, 97, 51, 51, 99, 101, 52, 53, 57, 54, 52, 102, 102, 50, 49, 54, 55, 102, 54, 101, 99, 101, 100, 100, 52, 49, 57, 100, 98, 48, 54, 99, 49]⟩) ∧ Below w.heap.size w w' := by
  unfold sha
  rw [sum_two]
  refine (hex_any _ rfl (by unfold Byt; decide) w).mono fun e w1 ⟨he, hb⟩ => ⟨?_, hb⟩
  rw [he]
  kernel_rfl
theorem hex_many (w : World) : Calls Tryd.prog 14 #[.agg (bs (sha (List.replicate 1000 97)))] w fun e w' => e = .returned (.string ⟨#[52, 49, 101, 100, 101, 99, 101, 52, 50, 100, 54, 51, 101, 56, 100, 57, 98, 102, 53, 49, 53, 97, 57, 98, 97, 54, 57, 51, 50, 101, 49, 99, 50, 48, 99, 98, 99, 57, 102, 53, 97, 53, 100, 49, 51, 52, 54, 52, 53, 97, 100, 98, 53, 100, 98, 49, 98, 57, 55, 51, 55, 101, 97, 51]⟩) ∧ Below w.heap.size w w' := by
  unfold sha
  rw [sum_many]
  refine (hex_any _ rfl (by unfold Byt; decide) w).mono fun e w1 ⟨he, hb⟩ => ⟨?_, hb⟩
  rw [he]
  kernel_rfl
theorem hexm_fox (w : World) : Calls Tryd.prog 14 #[.agg (bs (macN roundN startN [107, 101, 121] [84, 104, 101, 32, 113, 117, 105, 99, 107, 32, 98, 114, 111, 119, 110, 32, 102, 111, 120, 32, 106, 117, 109, 112, 115, 32, 111, 118, 101, 114, 32, 116, 104, 101, 32, 108, 97, 122, 121, 32, 100, 111, 103]))] w fun e w' => e = .returned (.string ⟨#[102, 55, 98, 99, 56, 51, 102, 52, 51, 48, 53, 51, 56, 52, 50, 52, 98, 49, 51, 50, 57, 56, 101, 54, 97, 97, 54, 102, 98, 49, 52, 51, 101, 102, 52, 100, 53, 57, 97, 49, 52, 57, 52, 54, 49, 55, 53, 57, 57, 55, 52, 55, 57, 100, 98, 99, 50, 100, 49, 97, 51, 99, 100, 56]⟩) ∧ Below w.heap.size w w' := by
  rw [mac_fox]
  refine (hex_any _ rfl (by unfold Byt; decide) w).mono fun e w1 ⟨he, hb⟩ => ⟨?_, hb⟩
  rw [he]
  kernel_rfl
theorem hexm_none (w : World) : Calls Tryd.prog 14 #[.agg (bs (macN roundN startN [] []))] w fun e w' => e = .returned (.string ⟨#[98, 54, 49, 51, 54, 55, 57, 97, 48, 56, 49, 52, 100, 57, 101, 99, 55, 55, 50, 102, 57, 53, 100, 55, 55, 56, 99, 51, 53, 102, 99, 53, 102, 102, 49, 54, 57, 55, 99, 52, 57, 51, 55, 49, 53, 54, 53, 51, 99, 54, 99, 55, 49, 50, 49, 52, 52, 50, 57, 50, 99, 53, 97, 100]⟩) ∧ Below w.heap.size w w' := by
  rw [mac_none]
  refine (hex_any _ rfl (by unfold Byt; decide) w).mono fun e w1 ⟨he, hb⟩ => ⟨?_, hb⟩
  rw [he]
  kernel_rfl
end Go.Proofs.YtkppejaigodgiaaDoor
