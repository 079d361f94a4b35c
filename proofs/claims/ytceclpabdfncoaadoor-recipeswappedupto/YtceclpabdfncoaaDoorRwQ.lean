/- The two hash parts of the law, as texts. -/
import Derived.Test.YtceclpabdfncoaaDoorRwP
import Derived.Test.YtceclpabdfncoaaDoorPrn
namespace Go.Proofs.YtceclpabdfncoaaDoor.Re
open Go.RowKit
/-- The law's hash. -/
def hsh (a b : Nat) : List Nat := [a, b, 0, 0, 0, 0, 0, 0, 0, 0, 0, 0, 0, 0, 0, 0, 0, 0, 0, 0]
/-- Its text. -/
def hx (a b : Nat) : S := str (b32L (hsh a b))
theorem txt_hx (a b : Nat) : txt (b32L (hsh a b)) = .string (hx a b) := rfl
theorem byt_hsh {a b : Nat} (ha : a < 256) (hb : b < 256) : Byt (hsh a b) := fun z hz => by
  simp [hsh] at hz
  omega
theorem bl_str (l : List Nat) : bl (str l) = l.map fun n => UInt8.ofNat n := by
  simp [bl, str, strOfNums]
theorem g32_dig : ∀ n, n < 32 → UInt8.ofNat (g32 n) ≠ 32 := by decide
theorem n_hsh (a b : Nat) : n32 (hsh a b).length = 32 := by simp [n32, hsh]
theorem w_hx (a b : Nat) : W32 (hx a b) := by
  refine ⟨?_, ?_⟩
  · unfold hx
    rw [bl_str, List.length_map, b32L_len, n_hsh]
  · unfold hx
    rw [bl_str]
    intro h
    obtain ⟨n, hn, e⟩ := List.mem_map.1 h
    unfold b32L at hn
    obtain ⟨j, -, rfl⟩ := List.mem_map.1 hn
    exact g32_dig _ (d32_lt _ _ _) e
theorem hx_30 (a b : Nat) : (bl (hx a b))[30]? = some (UInt8.ofNat (g32 ((a / 32 + b * 8) % 32))) := by
  unfold hx
  rw [bl_str, List.getElem?_map]
  unfold b32L
  rw [n_hsh, List.getElem?_map, List.getElem?_range (by omega)]
  simp [v32, d32, hsh]
theorem g32_inj : ∀ m, m < 32 → ∀ n, n < 32 → UInt8.ofNat (g32 m) = UInt8.ofNat (g32 n) → m = n := by decide
theorem hx_ne {a b : Nat} (ha : a < 256) (hb : b < 256) : hx a 1 ≠ hx b 2 := fun e => by
  have h := (hx_30 a 1).symm.trans ((congrArg (fun z => (bl z)[30]?) e).trans (hx_30 b 2))
  have := g32_inj _ (Nat.mod_lt _ (by omega)) _ (Nat.mod_lt _ (by omega)) (Option.some.inj h)
  omega
theorem hx_size (a b : Nat) : (hx a b).size = 32 := by rw [← bl_len]; exact (w_hx a b).1
end Go.Proofs.YtceclpabdfncoaaDoor.Re
