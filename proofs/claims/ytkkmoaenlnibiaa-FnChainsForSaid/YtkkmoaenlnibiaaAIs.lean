/-
  The contracts of chapter 5, told by what they answer; of a chain and a formula where there are both.
-/
import Derived.Test.YtkkmoaenlnibiaaASpec2
import Derived.Test.YtkkmoaenlnibiaaASamN
import Derived.Test.YtkkmoaenlnibiaaAChainS
import Derived.Test.YtkkmoaenlnibiaaADraw
import Derived.Outline
namespace Go.Proofs.Ytkkmoaenlnibiaa
open Go.RowKit

theorem least_is (n : Int) (s : ByteArray) {v : Int} (h : leastI n (bl s) = v) (w : World) :
    Calls Try.prog 16 #[.int .i64 n, .string s] w fun e w' => e = .returned (.int .i64 v) ∧ w.grownBy w' none := by rw [← h]; exact least_any n s w
theorem sleast_is (n : Int) (s : ByteArray) {v : Int} (h : leastI n (bl s) = v) (w : World) :
    Calls Try.prog 17 #[.int .i64 n, .string s] w fun e w' => e = .returned (.int .i64 v) ∧ w.grownBy w' none := by rw [← h]; exact sleast_any n s w
theorem always_is (n : Int) (s : ByteArray) {v : Bool} (h : alwB n (bl s) = v) (w : World) :
    Calls Try.prog 22 #[.int .i64 n, .string s] w fun e w' => e = .returned (.bool v) ∧ w.grownBy w' none := by rw [← h]; exact always_any n s w
theorem salways_is (n : Int) (s : ByteArray) {v : Bool} (h : alwB n (bl s) = v) (w : World) :
    Calls Try.prog 23 #[.int .i64 n, .string s] w fun e w' => e = .returned (.bool v) ∧ w.grownBy w' none := by rw [← h]; exact salways_any n s w
theorem same_is (n : Int) (s t : ByteArray) {v : Bool} (h : sameI n (bl s) (bl t) = v) (w : World) :
    Calls Try.prog 28 #[.int .i64 n, .string s, .string t] w fun e w' => e = .returned (.bool v) ∧ w.grownBy w' none := by rw [← h]; exact samat_any n s t w
theorem ssame_is (n : Int) (s t : ByteArray) {v : Bool} (h : sameI n (bl s) (bl t) = v) (w : World) :
    Calls Try.prog 29 #[.int .i64 n, .string s, .string t] w fun e w' => e = .returned (.bool v) ∧ w.grownBy w' none := by rw [← h]; exact ssamat_any n s t w
theorem frm_is (s : ByteArray) {v : Bool} (h : isF (bl s) = v) (w : World) :
    Calls Try.prog 34 #[.string s] w fun e w' => e = .returned (.bool v) ∧ w.grownBy w' none := by rw [← h]; exact form_any s w
theorem sfrm_is (s : ByteArray) {v : Bool} (h : isF (bl s) = v) (w : World) :
    Calls Try.prog 30 #[.string s] w fun e w' => e = .returned (.bool v) ∧ w = w' := by rw [← h]; exact sform_any s w
theorem val_is (n : Int) (s : ByteArray) (a b c : Int) {v : Int} (h : valI n (bl s) a b c = v) (w : World) :
    Calls Try.prog 19 #[.int .i64 n, .string s, .int .i64 a, .int .i64 b, .int .i64 c] w fun e w' => e = .returned (.int .i64 v) ∧ w.grownBy w' none := by rw [← h]; exact value_any n s a b c w
theorem vk_is (n a : Int) {v : Bool} (h : vokB n a = v) (w : World) :
    Calls Try.prog 20 #[.int .i64 n, .int .i64 a] w fun e w' => e = .returned (.bool v) ∧ w = w' := by rw [← h]; exact vok_any n a w

theorem least_m1 {n : Int} {l : List UInt8} (h : leastI n l < 0) : leastI n l = -1 := by
  rcases (least_neg n l).1 h with h | h
  · exact leastI_o h
  · exact leastI_n h
theorem least_pos {n : Int} {l : List UInt8} (h : ¬ leastI n l < 0) : ∃ (N : Nat) (t : Tr), n = N ∧ (1 ≤ N ∧ N ≤ 6) ∧ fOf l = some t := by
  cases hi : inB n 1 6
  · exact absurd ((least_neg n l).2 (.inl hi)) h
  · cases ho : fOf l with
    | none => exact absurd ((least_neg n l).2 (.inr ho)) h
    | some t =>
      obtain ⟨N, rfl, hN⟩ := nat_of hi
      exact ⟨N, t, rfl, hN, rfl⟩
theorem alw_pos {n : Int} {l : List UInt8} (h : alwB n l = true) : ∃ (N : Nat) (t : Tr), n = N ∧ (1 ≤ N ∧ N ≤ 6) ∧ fOf l = some t ∧ alwT N t = true := by
  cases hi : inB n 1 6
  · rw [alwB_o hi] at h; cases h
  · cases ho : fOf l with
    | none => rw [alwB_n ho] at h; cases h
    | some t =>
      obtain ⟨N, rfl, hN⟩ := nat_of hi
      rw [alwB_t ho hi] at h
      exact ⟨N, t, rfl, hN, rfl, h⟩
theorem ag_neg {n : Int} {l : List UInt8} (h : agI n l = none) (k : alwB n l = false) : leastI n l < 0 := by
  refine (least_neg n l).2 ?_
  cases hi : inB n 1 6
  · exact .inl rfl
  · cases ho : fOf l with
    | none => exact .inr rfl
    | some t =>
      obtain ⟨N, rfl, hN⟩ := nat_of hi
      rw [agI_t ho hi] at h
      rw [alwB_t ho hi, ← agN_alw, h] at k
      cases k
theorem ag_pos {n : Int} {l : List UInt8} {k : Nat} (h : agI n l = some k) : ∃ (N : Nat) (t : Tr), n = N ∧ (1 ≤ N ∧ N ≤ 6) ∧ fOf l = some t ∧ agN N t = some k := by
  cases hi : inB n 1 6
  · rw [agI_o hi] at h; cases h
  · cases ho : fOf l with
    | none => rw [agI_n ho] at h; cases h
    | some t =>
      obtain ⟨N, rfl, hN⟩ := nat_of hi
      rw [agI_t ho hi] at h
      exact ⟨N, t, rfl, hN, rfl, h⟩

end Go.Proofs.Ytkkmoaenlnibiaa
