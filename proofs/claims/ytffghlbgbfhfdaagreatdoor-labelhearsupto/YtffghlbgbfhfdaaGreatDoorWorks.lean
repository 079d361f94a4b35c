/- works: a label's text, and that it is read. -/
import Derived.Test.YtffghlbgbfhfdaaGreatDoorRd
namespace Go.Proofs.YtffghlbgbfhfdaaGreatDoor
open Go.RowKit
def xN : ByteArray := ⟨#[120]⟩
def litX : ByteArray := ⟨#[47, 103, 114, 97, 102, 116, 47, 115, 116, 111, 114, 101, 47, 48, 48, 48, 48, 48, 48, 48, 48, 48, 48, 48, 48, 48, 48, 48, 48, 48, 48, 48, 48, 48, 48, 48, 48, 48, 48, 48, 48, 48, 48, 48, 48, 45, 120]⟩
set_option maxRecDepth 100000 in
theorem litX_eq : store ++ baseS z20 xN = litX := by decide +kernel
set_option maxRecDepth 100000 in
theorem xN_ok : okN xN = 0 := by decide +kernel
set_option maxRecDepth 100000 in
theorem z20_byt : Byt z20 := fun x hx => by rw [List.eq_of_mem_replicate hx]; decide
set_option maxRecDepth 100000 in
theorem base_parts (h : List Nat) (hl : h.length = 20) (s : ByteArray) : (baseS h s).extract 0 32 = str (b32L h) ∧ byt (baseS h s) 32 = 45 ∧ (baseS h s).extract 33 (baseS h s).size = s := by
  have hz : (str (b32L h)).size = 32 := by rw [str_size, b32L_len, hl]; decide
  refine ⟨?_, ?_, ?_⟩
  · unfold baseS
    rw [show str (b32L h) ++ minus ++ s = str (b32L h) ++ (minus ++ s) from ByteArray.append_assoc]
    exact ext_left _ _ 32 hz
  · unfold baseS
    rw [byt_app _ _ 32 (by rw [app_size, hz]; decide)]
    have h1 : 32 < (str (b32L h) ++ minus).size := by rw [app_size, hz]; decide
    rw [← byt_at _ 32 h1]
    show ((str (b32L h) ++ minus).data[32]'h1).toNat = 45
    simp only [ByteArray.data_append]
    have hz' : (str (b32L h)).data.size = 32 := hz
    rw [Array.getElem_append_right (by omega)]
    simp [hz', minus]
  · unfold baseS
    exact ext_right _ _ 33 (by rw [app_size, hz]; rfl)
set_option maxRecDepth 100000 in
theorem parse_label (h : List Nat) (hb : Byt h) (hl : h.length = 20) (s : ByteArray) (hok : okN s = 0) (w : World) (ht : Tx w) :
    Calls Tryz.prog 49 #[.string (store ++ baseS h s)] w fun e w' => e = .returned (.tuple #[.agg (lab h s), .int .i64 0, .int .i64 0]) ∧ Below w.heap.size w w' := by
  obtain ⟨p1, p2, p3⟩ := base_parts h hl s
  exact parse_ok (baseS h s) s h hb hl (baseS_size h s hl) (okN_size s hok) p1 p2 p3 hok w ht
set_option maxRecDepth 100000 in
theorem pb_label (h : List Nat) (hb : Byt h) (hl : h.length = 20) (s : ByteArray) (hok : okN s = 0) (w : World) (ht : Tx w) :
    Calls Tryz.prog 64 #[.string (baseS h s)] w fun e w' => e = .returned (.tuple #[.agg (lab h s), .int .i64 0, .int .i64 0]) ∧ Below w.heap.size w w' := by
  obtain ⟨p1, p2, p3⟩ := base_parts h hl s
  exact pb_ok (baseS h s) s h hb hl (baseS_size h s hl) (okN_size s hok) p1 p2 p3 hok w ht
attribute [local go_sem ↓] to25s to25l to23l toBuild toEq
end Go.Proofs.YtffghlbgbfhfdaaGreatDoor
