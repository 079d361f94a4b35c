/- The constants as numbers; the code's tables lie. -/
import Derived.Test.YtceclpabdfncoaaDoorShMix
import Derived.Test.YtceclpabdfncoaaDoorShJb
import Derived.Test.YtceclpabdfncoaaDoorShJe
import Derived.Test.YtceclpabdfncoaaDoorBig
namespace Go.Proofs.YtceclpabdfncoaaDoor.Sha
open Go.RowKit
def startN : List Nat := [1779033703, 3144134277, 1013904242, 2773480762, 1359893119, 2600822924, 528734635, 1541459225]
def roundN : List Nat := [1116352408, 1899447441, 3049323471, 3921009573, 961987163, 1508970993, 2453635748, 2870763221, 3624381080, 310598401, 607225278, 1426881987, 1925078388, 2162078206, 2614888103, 3248222580, 3835390401, 4022224774, 264347078, 604807628, 770255983, 1249150122, 1555081692, 1996064986, 2554220882, 2821834349, 2952996808, 3210313671, 3336571891, 3584528711, 113926993, 338241895, 666307205, 773529912, 1294757372, 1396182291, 1695183700, 1986661051, 2177026350, 2456956037, 2730485921, 2820302411, 3259730800, 3345764771, 3516065817, 3600352804, 4094571909, 275423344, 430227734, 506948616, 659060556, 883997877, 958139571, 1322822218, 1537002063, 1747873779, 1955562222, 2024104815, 2227730452, 2361852424, 2428436474, 2756734187, 3204031479, 3329325298]
set_option maxRecDepth 100000 in
theorem roundN_wrd : Wrd roundN := by unfold Wrd roundN; decide
set_option maxRecDepth 100000 in
theorem startN_wrd : Wrd startN := by unfold Wrd startN; decide
set_option maxRecDepth 100000 in
theorem mixOK : MixOK roundN := fun st blk hst hsw hb b off cap hcap hmax w hlt hg1 hc hK => mix_any roundN st blk hst hsw roundN_wrd hb b off cap hcap hmax w hlt hg1 hc hK
/-- The code's tables lie. -/
structure Tb (w : World) : Prop where
  sz : 4 < w.heap.size
  s : ∀ j, j < 8 → w.cell? ⟨3, j, none⟩ = some (.int .u32 ((startN.getD j 0 : Nat) : Int))
  k : ∀ j, j < 64 → w.cell? ⟨4, j, none⟩ = some (.int .u32 ((roundN.getD j 0 : Nat) : Int))
set_option maxRecDepth 100000 in
theorem Tb.keep {w w' : World} (h : Tb w) (hs : w.heap.size ≤ w'.heap.size) (hb : ∀ j, j < 5 → w'.heap[j]? = w.heap[j]?) : Tb w' :=
  ⟨Nat.lt_of_lt_of_le h.sz hs, fun j hj => (World.cell?_of_block (w := w) (hb 3 (by omega))).trans (h.s j hj), fun j hj => (World.cell?_of_block (w := w) (hb 4 (by omega))).trans (h.k j hj)⟩
set_option maxRecDepth 100000 in
theorem Tb.below {w w' : World} {B : Nat} (h : Tb w) (hb : Below B w w') (hB : 4 < B) : Tb w' := h.keep hb.size (fun j hj => hb.block j (by omega))
noncomputable def sha (m : List Nat) : List Nat := shaN roundN startN m
set_option maxRecDepth 100000 in
theorem sha_len (m : List Nat) : (sha m).length = 32 := shaN_len _ _ _
set_option maxRecDepth 100000 in
theorem shaN_byt (ks sn m : List Nat) : Byt (shaN ks sn m) := sumS_byt _
set_option maxRecDepth 100000 in
theorem sha_byt (m : List Nat) : Byt (sha m) := shaN_byt _ _ _
set_option maxRecDepth 100000 in
theorem of_tb (d : List Nat) (v : Value) (hn : d.length ≤ 1152921504606846976) (hdb : Byt d) (w : World) (ht : Tb w) (hv : YtceclpabdfncoaaDoor.Byl v d w) :
    Calls Tryd.prog 16 #[v] w fun e w' => e = .returned (.agg (bs (sha d))) ∧ Below w.heap.size w w' :=
  of_any roundN startN mixOK rfl startN_wrd d v hn hdb w ht.sz hv ht.s ht.k
end Go.Proofs.YtceclpabdfncoaaDoor.Sha
