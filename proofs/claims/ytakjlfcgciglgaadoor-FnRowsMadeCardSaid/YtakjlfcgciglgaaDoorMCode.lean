/-
  The model's l9Code: a row as a number. The chain has 1 to 4 steps.
-/
import Derived.Test.YtakjlfcgciglgaaDoorMade
import Derived.Test.YtakjlfcgciglgaaDoorInts
namespace Go.Proofs.YtakjlfcgciglgaaDoor
open Go.RowKit

def rI (r : List Nat) : List Int := r.map fun (d : Nat) => (d : Int)
theorem rI_len (r : List Nat) : (rI r).length = r.length := by unfold rI; simp
theorem rI_at (r : List Nat) (k : Nat) : (rI r).getD k 0 = ((r.getD k 0 : Nat) : Int) := by
  unfold rI
  rw [List.getD_eq_getElem?_getD, List.getElem?_map, List.getD_eq_getElem?_getD]
  cases r[k]? <;> rfl
theorem code_take {b : Nat} {r : List Nat} {k : Nat} (h : k < r.length) : codeR b (r.take (k + 1)) = codeR b (r.take k) * b + r.getD k 0 := by
  rw [List.take_add_one, List.getElem?_eq_getElem h, List.getD_eq_getElem?_getD, List.getElem?_eq_getElem h]
  exact codeR_snoc b _ _
theorem pow_small {n k : Nat} (hn : n ≤ 4) (hk : k ≤ 5) : (n + 1) ^ k ≤ 3125 :=
  Nat.le_trans (Nat.pow_le_pow_left (show n + 1 ≤ 5 by omega) k) (Nat.pow_le_pow_right (by omega) hk)
theorem code_bound {n : Nat} (hn : n ≤ 4) {r : List Nat} (hr : wellR n r) {k : Nat} (hk : k ≤ n + 1) : codeR (n + 1) (r.take k) ≤ 3125 := by
  have h := (digs_code k (r.take k) (by rw [List.length_take, hr.1]; omega) (fun d hd => hr.2 d (List.mem_of_mem_take hd))).2
  have := pow_small hn (k := k) (by omega)
  omega

def CdRel (b : Nat) (r : List Nat) (w : World) (c i : Value) (wr : World) : Prop := ∃ k : Nat, k ≤ r.length ∧ i = .int .i64 k ∧ c = .int .i64 (codeR b (r.take k) : Int) ∧ w = wr

set_option maxRecDepth 100000 in
set_option maxHeartbeats 2000000 in
theorem scode_any (N : Nat) (hN : 1 ≤ N ∧ N ≤ 4) (a : Option Addr) (cap : Nat) (r : List Nat) (hr : wellR N r) (w : World) (h : IntsAt w a (rI r)) :
    Calls Tryd.prog 22 #[.int .i64 N, .slice a (N + 1) cap] w fun e w' => e = .returned (.int .i64 (codeR (N + 1) r : Int)) ∧ w = w' := by
  have H := Lib.hid h
  clear h
  have HR := Lib.hid hr
  have hl := Lib.hid hr.1
  clear hr
  go_enter Tryd.func22, Tryd.ntmps22
  go_wp2_with fail
  go_loopw [5, 6] (fun c i wr => CdRel (N + 1) r w c i wr) (fun _ i _ => N + 1 - (intOf i).toNat)
  case atStart => exact ⟨0, by omega, rfl, rfl, rfl⟩
  case round =>
    obtain ⟨k, hk, rfl, rfl, rfl⟩ := hrel
    have hk2 : k ≤ N + 1 := by have := hl.out; omega
    have b1 := code_bound (by omega) HR.out hk2
    clear hk
    by_cases hlt : k < N + 1
    · have hkr : k < r.length := by have := hl.out; omega
      have hkr2 : k < (rI r).length := by rw [rI_len]; exact hkr
      rcases H.out.2 with h0 | ⟨bx, ox, rfl, hbx, hcx⟩
      · rw [h0] at hkr2; simp at hkr2
      have hc := hcx k hkr2
      rw [rI_at] at hc
      have b2 := code_bound (by omega) HR.out (k := k + 1) (by omega)
      have hmul : ((codeR (N + 1) (r.take k) : Nat) : Int) * ((N : Int) + 1) = ((codeR (N + 1) (r.take k) * (N + 1) : Nat) : Int) := by simp
      have hnx : Hid (codeR (N + 1) (r.take (k + 1)) = codeR (N + 1) (r.take k) * (N + 1) + r.getD k 0) := code_take hkr
      have b3 : codeR (N + 1) (r.take k) * (N + 1) + r.getD k 0 ≤ 3125 := by rw [← hnx.out]; exact b2
      clear hcx hbx hkr hkr2 b2
      generalize codeR (N + 1) (r.take k) * (N + 1) = CB at *
      generalize codeR (N + 1) (r.take k) = C at *
      generalize r.getD k 0 = d at *
      go_wp2_with fail
      go_roundw
      case rel => exact ⟨k + 1, by have := hl.out; omega, by go_num, by rw [hnx.out]; simp, rfl⟩
      case measure => simp [intOf]; omega
    · obtain rfl : k = N + 1 := by omega
      have he : Hid (codeR (N + 1) (r.take (N + 1)) = codeR (N + 1) r) := by unfold Hid; rw [List.take_of_length_le (by have := hl.out; omega)]
      go_wp2_with fail
      go_ret
      exact ⟨by rw [← he.out]; rfl, rfl⟩

end Go.Proofs.YtakjlfcgciglgaaDoor
