/-
  Contracts of strconv.Itoa and l1Number at the numbers 0 to 6, and of ValueText, both. No other condition.
-/
import Derived.Test.YtkjhefmjpjpjiaaDoorLow
import Derived.Laws.IdiomStrings
namespace Go.Proofs.YtkjhefmjpjpjiaaDoor
open Go.RowKit

def digS (k : Int) : ByteArray := ⟨#[UInt8.ofNat (48 + k.toNat)]⟩

theorem ret_str {a b : ByteArray} (h : a = b) : Ending.returned (.string a) = .returned (.string b) := by rw [h]

theorem seven {k : Int} (h : 0 ≤ k ∧ k ≤ 6) : k = 0 ∨ k = 1 ∨ k = 2 ∨ k = 3 ∨ k = 4 ∨ k = 5 ∨ k = 6 := by omega

theorem small_any (k : Int) (h : 0 ≤ k ∧ k ≤ 6) (w : World) :
    Calls Tryd.prog 38 #[.int .i64 k] w fun e w' => e = .returned (.string (digS k)) ∧ w = w' := by
  rcases seven h with rfl | rfl | rfl | rfl | rfl | rfl | rfl
  all_goals
    clear h
    go_enter Tryd.func38, Tryd.ntmps38
    go_wp2
    go_ret
    exact ⟨ret_str (by decide), rfl⟩

theorem itoa_any (k : Int) (h : 0 ≤ k ∧ k ≤ 6) (w : World) :
    Calls Tryd.prog 27 #[.int .i64 k] w fun e w' => e = .returned (.string (digS k)) ∧ w = w' := by
  go_enter Tryd.func27, Tryd.ntmps27
  go_wp2_with (first | (go_at_call 38; refine (small_any k h _).mono ?_; rintro e w' ⟨rfl, rfl⟩) | go_in)
  go_ret
  exact ⟨rfl, rfl⟩

def StrPost (s : ByteArray) (w : World) (e : Ending) (w' : World) : Prop := e = .returned (.string s) ∧ w.grownBy w' none

theorem one_byte (w : World) (c : UInt8) (n : Int) (hn : n = (c.toNat : Int)) :
    (convert 22 9 (.slice (some ⟨w.heap.size, 0, none⟩) 1 1)).run Tryd.prog (w.alloc (.cells #[.int .u8 n] 5)) = .ok (.string ⟨#[c]⟩) (w.alloc (.cells #[.int .u8 n] 5)) := by
  refine run_convert_bytes_back (P := Tryd.prog) _ 22 9 5 ⟨w.heap.size, 0, none⟩ 1 [c] Tryd.underlying22 Tryd.underlying5 Tryd.underlying9 (fun j hj => ?_)
  obtain rfl : j = 0 := by simpa using hj
  rw [add_none, World.cell?_alloc_mark, hn]
  rfl

theorem number_any (k : Int) (h : 0 ≤ k ∧ k ≤ 6) (w : World) :
    Calls Tryd.prog 30 #[.int .i64 k] w (StrPost (digS k) w) := by
  rcases seven h with rfl | rfl | rfl | rfl | rfl | rfl | rfl
  all_goals
    clear h
    have h48 := one_byte w 48 48 rfl
    have h49 := one_byte w 49 49 rfl
    have h50 := one_byte w 50 50 rfl
    have h51 := one_byte w 51 51 rfl
    have h52 := one_byte w 52 52 rfl
    have h53 := one_byte w 53 53 rfl
    have h54 := one_byte w 54 54 rfl
    go_enter Tryd.func30, Tryd.ntmps30
    go_wp2_with fail
    go_ret
    exact ⟨ret_str (by decide), World.grownBy_alloc _ _ _⟩

end Go.Proofs.YtkjhefmjpjpjiaaDoor
