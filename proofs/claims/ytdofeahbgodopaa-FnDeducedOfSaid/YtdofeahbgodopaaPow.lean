/-
  impl.PowerText and impl.DeducedOf. No condition but that the texts are at most 1048576 bytes long where DeducedOf puts them together.
-/
import Derived.Test.YtdofeahbgodopaaPair
import Derived.Test.YtdofeahbgodopaaFTree
namespace Go.Proofs.Ytdofeahbgodopaa
open Go.RowKit

theorem powN_size {t : Tr} (ht : t.txt.length ≤ 60) {i : Nat} (hi : i ≤ 8) : (powN t i).txt.length ≤ 600 := by
  rw [powN_len]
  have : (i + 1) * t.txt.length ≤ 9 * 60 := Nat.mul_le_mul (by omega) ht
  omega
theorem frm_no (s : ByteArray) (h : fOf (bl s) = none) (w : World) :
    Calls Try.prog 30 #[.string s] w fun e w' => e = .returned (.bool false) ∧ w.grownBy w' none := by rw [← isF_f h]; exact form_any s w
theorem frm_yes (s : ByteArray) {t : Tr} (h : fOf (bl s) = some t) (w : World) :
    Calls Try.prog 30 #[.string s] w fun e w' => e = .returned (.bool true) ∧ w.grownBy w' none := by rw [← isF_t h]; exact form_any s w

/-- A tree, if its text is short enough. -/
def shT (t : Tr) : Option Tr := if t.txt.length ≤ 60 then some t else none
theorem shT_t {t : Tr} (h : t.txt.length ≤ 60) : shT t = some t := if_pos h
theorem shT_f {t : Tr} (h : ¬ t.txt.length ≤ 60) : shT t = none := if_neg h

theorem pow_no1 (s : ByteArray) (k : Int) (w : World) (h : fOf (bl s) = none) :
    Calls Try.prog 26 #[.string s, .int .i64 k] w fun e w' => e = .returned (.tuple #[.string ⟨#[]⟩, .bool false]) ∧ w.grownBy w' none := by
  have cc := frm_no s h w
  clear h
  go_enter Try.func26, Try.ntmps26
  go_wp2_with (go_at_call 30; refine cc.mono ?_; rintro e w1 ⟨rfl, g1⟩)
  go_ret2
  exact ⟨rfl, g1⟩
theorem pow_no2 (s : ByteArray) (k : Int) (w : World) {t : Tr} (h : fOf (bl s) = some t) (hk : inB k 1 9 = false) :
    Calls Try.prog 26 #[.string s, .int .i64 k] w fun e w' => e = .returned (.tuple #[.string ⟨#[]⟩, .bool false]) ∧ w.grownBy w' none := by
  have cc := frm_yes s h w
  have hk' : k < 1 ∨ 9 < k := by
    by_cases h1 : k < 1
    · exact .inl h1
    · by_cases h2 : 9 < k
      · exact .inr h2
      · rw [inB_t (by omega)] at hk; cases hk
  clear h hk
  rcases hk' with hk | hk
  · go_enter Try.func26, Try.ntmps26
    go_wp2_with (go_at_call 30; refine cc.mono ?_; rintro e w1 ⟨rfl, g1⟩)
    go_ret2
    exact ⟨rfl, g1⟩
  · have d1 : ¬ k < 1 := by omega
    go_enter Try.func26, Try.ntmps26
    go_wp2_with (go_at_call 30; refine cc.mono ?_; rintro e w1 ⟨rfl, g1⟩)
    go_ret2
    exact ⟨rfl, g1⟩

def PwRel (t : Tr) (j : Nat) (w : World) (p i : Value) (wr : World) : Prop := ∃ k : Nat, k ≤ j ∧ i = .int .i64 k ∧ p = .string (tb (powN t k)) ∧ w.grownBy wr none

set_option maxHeartbeats 1000000 in
theorem pow_yes (t : Tr) (ht : t.txt.length ≤ 60) (j : Nat) (hj : j ≤ 8) (w : World) :
    Calls Try.prog 26 #[.string (tb t), .int .i64 ((j : Int) + 1)] w fun e w' => e = .returned (txV (shT (powN t j))) ∧ w.grownBy w' none := by
  have cc := frm_yes (tb t) (fOf_txt ht) w
  have d1 : ¬ (j : Int) + 1 < 1 := by omega
  have d2 : ¬ 9 < (j : Int) + 1 := by omega
  have e1 : (j : Int) + 1 - 1 = j := by omega
  have st := tb_size t
  go_enter Try.func26, Try.ntmps26
  go_wp2_with (go_at_call 30; refine cc.mono ?_; rintro e w1 ⟨rfl, g1⟩)
  clear cc
  go_loopw [6, 21] (fun p i wr => PwRel t j w p i wr) (fun _ i _ => j - (intOf i).toNat)
  case atStart => exact ⟨0, by omega, rfl, rfl, g1⟩
  case round =>
    obtain ⟨k, hk, rfl, rfl, hgr⟩ := hrel
    have sk := powN_size ht (show k ≤ 8 by omega)
    rw [← tb_size] at sk
    by_cases hlt : k < j
    · have e2 := Lib.hid (tb_bin .times t (powN t k))
      have cp := fun w => ptx_any (tb t) ⟨#[42]⟩ (tb (powN t k)) (by omega) rfl w
      generalize tb (powN t k) = P at *
      go_wp2_with (go_at_call 54; refine (cp _).mono ?_; rintro e w2 ⟨rfl, rfl⟩)
      go_roundw
      case rel => exact ⟨k + 1, by omega, by go_num, by rw [show powN t (k + 1) = .bin .times t (powN t k) from rfl, ← e2.out]; rfl, hgr⟩
      case measure => simp [intOf]; omega
    · obtain rfl : k = j := by omega
      by_cases hl : (powN t k).txt.length ≤ 60
      · have e3 : Hid (shT (powN t k) = some (powN t k)) := shT_t hl
        have cs := fun w => shr_t (tb (powN t k)) (by rw [tb_size]; exact hl) w
        clear hl sk
        go_wp2_with (go_at_call 55; refine (cs _).mono ?_; rintro e w2 ⟨rfl, rfl⟩)
        go_ret2
        exact ⟨by first | rfl | (rw [e3.out]; rfl), hgr⟩
      · have e3 : Hid (shT (powN t k) = none) := shT_f hl
        have cs := fun w => shr_f (tb (powN t k)) (by rw [tb_size]; exact hl) w
        clear hl sk
        go_wp2_with (go_at_call 55; refine (cs _).mono ?_; rintro e w2 ⟨rfl, rfl⟩)
        go_ret2
        exact ⟨by first | rfl | (rw [e3.out]; rfl), hgr⟩

theorem pow_any (s : ByteArray) (k : Int) (w : World) :
    Calls Try.prog 26 #[.string s, .int .i64 k] w fun e w' => e = .returned (txV (powI (bl s) k)) ∧ w.grownBy w' none := by
  cases ho : fOf (bl s) with
  | none => rw [powI_n ho]; exact pow_no1 s k w ho
  | some t =>
    cases hk : inB k 1 9
    · rw [powI_o hk]; exact pow_no2 s k w ho hk
    · have hb := inB_of hk
      obtain ⟨j, rfl⟩ : ∃ j : Nat, k = (j : Int) + 1 := ⟨(k - 1).toNat, by omega⟩
      have h := pow_yes t (fOf_some ho).2 j (by omega) w
      rw [tb_of ho]
      by_cases hl : (powN t j).txt.length ≤ 60
      · rw [shT_t hl] at h
        rw [← tb_of ho, powI_t ho hk hl, tb_of ho]
        exact h
      · rw [shT_f hl] at h
        rw [← tb_of ho, powI_l ho hl, tb_of ho]
        exact h
theorem pow_none (s : ByteArray) (k : Int) (h : powI (bl s) k = none) (w : World) :
    Calls Try.prog 26 #[.string s, .int .i64 k] w fun e w' => e = .returned (.tuple #[.string ⟨#[]⟩, .bool false]) ∧ w.grownBy w' none := by
  have := pow_any s k w
  rw [h] at this
  exact this
theorem pow_some (s : ByteArray) (k : Int) {p : Tr} (h : powI (bl s) k = some p) (w : World) :
    Calls Try.prog 26 #[.string s, .int .i64 k] w fun e w' => e = .returned (.tuple #[.string (tb p), .bool true]) ∧ w.grownBy w' none := by
  have := pow_any s k w
  rw [h] at this
  exact this

theorem ded_no1 (n : Int) (s t : ByteArray) (w : World) (h : inB n 1 6 = false) :
    Calls Try.prog 32 #[.int .i64 n, .string s, .string t] w fun e w' => e = .returned (.tuple #[.string ⟨#[]⟩, .bool false]) ∧ w.grownBy w' none := by
  have cs := steps_any n w
  rw [h] at cs
  clear h
  go_enter Try.func32, Try.ntmps32
  go_wp2_with (go_at_call 52; refine cs.mono ?_; rintro e w1 ⟨rfl, rfl⟩)
  go_ret2
  exact ⟨rfl, grownBy_refl _ _⟩
theorem ded_no2 (n : Int) (s t : ByteArray) (w : World) (h : inB n 1 6 = true) (ht : fOf (bl t) = none) :
    Calls Try.prog 32 #[.int .i64 n, .string s, .string t] w fun e w' => e = .returned (.tuple #[.string ⟨#[]⟩, .bool false]) ∧ w.grownBy w' none := by
  have cs := steps_any n w
  rw [h] at cs
  have ct := frm_no t ht w
  clear h ht
  go_enter Try.func32, Try.ntmps32
  go_wp2_with (first | (go_at_call 52; refine cs.mono ?_; rintro e w1 ⟨rfl, rfl⟩) | (go_at_call 30; refine ct.mono ?_; rintro e w2 ⟨rfl, g2⟩))
  go_ret2
  exact ⟨rfl, g2⟩
theorem ded_no3 (n : Int) (s t : ByteArray) (w : World) (h : inB n 1 6 = true) {u : Tr} (ht : fOf (bl t) = some u) (hp : powI (bl s) n = none) :
    Calls Try.prog 32 #[.int .i64 n, .string s, .string t] w fun e w' => e = .returned (.tuple #[.string ⟨#[]⟩, .bool false]) ∧ w.grownBy w' none := by
  have cs := steps_any n w
  rw [h] at cs
  have ct := frm_yes t ht w
  have cp := fun w => pow_none s n hp w
  clear h ht hp
  go_enter Try.func32, Try.ntmps32
  go_wp2_with (first | (go_at_call 52; refine cs.mono ?_; rintro e w1 ⟨rfl, rfl⟩) | (go_at_call 30; refine ct.mono ?_; rintro e w2 ⟨rfl, g2⟩) | (go_at_call 26; refine (cp _).mono ?_; rintro e w3 ⟨rfl, g3⟩))
  go_ret2
  exact ⟨rfl, grownBy_trans g2 g3⟩
theorem ded_yes (n : Int) (s t : ByteArray) (w : World) (h : inB n 1 6 = true) {u : Tr} (ht : fOf (bl t) = some u) {p : Tr} (hp : powI (bl s) n = some p) :
    Calls Try.prog 32 #[.int .i64 n, .string s, .string t] w fun e w' => e = .returned (txV (shT (.bin .fol p u))) ∧ w.grownBy w' none := by
  have hpl : p.txt.length ≤ 60 := by
    obtain ⟨j, t0, _, _, _, _, hpl⟩ := powI_of hp
    exact hpl
  have hul := (fOf_some ht).2
  have cs := steps_any n w
  rw [h] at cs
  have ct := frm_yes t ht w
  have cp := fun w => pow_some s n hp w
  have eu := tb_of ht
  clear h ht hp
  subst eu
  have sp := tb_size p
  have su := tb_size u
  have cx := fun w => ptx_any (tb p) ⟨#[62]⟩ (tb u) (by omega) rfl w
  rw [show (⟨#[40]⟩ : ByteArray) ++ tb p ++ ⟨#[62]⟩ ++ tb u ++ ⟨#[41]⟩ = tb (.bin .fol p u) from tb_bin .fol p u] at cx
  by_cases hl : (Tr.bin .fol p u).txt.length ≤ 60
  · have e3 : Hid (shT (.bin .fol p u) = some (.bin .fol p u)) := shT_t hl
    have ch := fun w => shr_t (tb (.bin .fol p u)) (by rw [tb_size]; exact hl) w
    have V := Lib.hid (show txV (some (Tr.bin .fol p u)) = .tuple #[.string (tb (.bin .fol p u)), .bool true] from rfl)
    clear hl sp su
    generalize tb (.bin .fol p u) = X at *
    generalize tb p = P at *
    generalize tb u = U at *
    generalize shT (.bin .fol p u) = Z at *
    go_enter Try.func32, Try.ntmps32
    go_wp2_with (first | (go_at_call 52; refine cs.mono ?_; rintro e w1 ⟨rfl, rfl⟩) | (go_at_call 30; refine ct.mono ?_; rintro e w2 ⟨rfl, g2⟩) | (go_at_call 26; refine (cp _).mono ?_; rintro e w3 ⟨rfl, g3⟩) | (go_at_call 54; refine (cx _).mono ?_; rintro e w4 ⟨rfl, rfl⟩) | (go_at_call 55; refine (ch _).mono ?_; rintro e w5 ⟨rfl, rfl⟩))
    go_ret2
    exact ⟨by rw [e3.out, V.out]; rfl, grownBy_trans g2 g3⟩
  · have e3 : Hid (shT (.bin .fol p u) = none) := shT_f hl
    have ch := fun w => shr_f (tb (.bin .fol p u)) (by rw [tb_size]; exact hl) w
    clear hl sp su
    generalize tb (.bin .fol p u) = X at *
    generalize tb p = P at *
    generalize tb u = U at *
    generalize shT (.bin .fol p u) = Z at *
    go_enter Try.func32, Try.ntmps32
    go_wp2_with (first | (go_at_call 52; refine cs.mono ?_; rintro e w1 ⟨rfl, rfl⟩) | (go_at_call 30; refine ct.mono ?_; rintro e w2 ⟨rfl, g2⟩) | (go_at_call 26; refine (cp _).mono ?_; rintro e w3 ⟨rfl, g3⟩) | (go_at_call 54; refine (cx _).mono ?_; rintro e w4 ⟨rfl, rfl⟩) | (go_at_call 55; refine (ch _).mono ?_; rintro e w5 ⟨rfl, rfl⟩))
    go_ret2
    exact ⟨by first | rfl | (rw [e3.out]; rfl), grownBy_trans g2 g3⟩

theorem ded_any (n : Int) (s t : ByteArray) (w : World) :
    Calls Try.prog 32 #[.int .i64 n, .string s, .string t] w fun e w' => e = .returned (txV (dedI n (bl s) (bl t))) ∧ w.grownBy w' none := by
  cases hi : inB n 1 6
  · rw [dedI_o hi]; exact ded_no1 n s t w hi
  · cases ht : fOf (bl t) with
    | none => rw [dedI_n ht]; exact ded_no2 n s t w hi ht
    | some u =>
      cases hp : powI (bl s) n with
      | none => rw [dedI_p hp]; exact ded_no3 n s t w hi ht hp
      | some p =>
        have h := ded_yes n s t w hi ht hp
        by_cases hl : (Tr.bin .fol p u).txt.length ≤ 60
        · rw [shT_t hl] at h
          rw [dedI_t hp ht hi hl]
          exact h
        · rw [shT_f hl] at h
          rw [dedI_l hp ht hl]
          exact h

end Go.Proofs.Ytdofeahbgodopaa
