/-
  The model's PowerText and DeducedOf. DeducedOf's last text has at most 1048576 bytes.
-/
import Derived.Test.YtdofeahbgodopaaPow
import Derived.Test.YtdofeahbgodopaaFSpec
namespace Go.Proofs.Ytdofeahbgodopaa
open Go.RowKit

theorem sfrm_v (s : ByteArray) {b : Bool} (h : isF (bl s) = b) (w : World) :
    Calls Try.prog 40 #[.string s] w fun e w' => e = .returned (.bool b) ∧ w = w' := by rw [← h]; exact sform_any s w
theorem in_v (a b c : Int) {v : Bool} (h : inB a b c = v) (w : World) :
    Calls Try.prog 50 #[.int .i64 a, .int .i64 b, .int .i64 c] w fun e w' => e = .returned (.bool v) ∧ w = w' := by rw [← h]; exact in_any a b c w
theorem isF_tb (t : Tr) : isF (bl (tb t)) = decide (t.txt.length ≤ 60) := by
  rw [bl_tb]
  by_cases h : t.txt.length ≤ 60
  · rw [isF_t (fOf_txt h), decide_eq_true h]
  · rw [isF_f (fOf_long (by omega)), decide_eq_false h]

theorem spow_no1 (s : ByteArray) (k : Int) (w : World) (h : isF (bl s) = false) :
    Calls Try.prog 27 #[.string s, .int .i64 k] w fun e w' => e = .returned (.tuple #[.string ⟨#[]⟩, .bool false]) ∧ w = w' := by
  have cf := sfrm_v s h w
  clear h
  go_enter Try.func27, Try.ntmps27
  go_wp2_with (go_at_call 40; refine cf.mono ?_; clear cf; rintro e w1 ⟨rfl, rfl⟩)
  go_ret2
  exact ⟨rfl, rfl⟩
theorem spow_no2 (s : ByteArray) (k : Int) (w : World) (h : isF (bl s) = true) (hk : inB k 1 9 = false) :
    Calls Try.prog 27 #[.string s, .int .i64 k] w fun e w' => e = .returned (.tuple #[.string ⟨#[]⟩, .bool false]) ∧ w = w' := by
  have cf := sfrm_v s h w
  have ci := in_v k 1 9 hk w
  clear h hk
  go_enter Try.func27, Try.ntmps27
  go_wp2_with (first | (go_at_call 40; refine cf.mono ?_; clear cf; rintro e w1 ⟨rfl, rfl⟩) | (go_at_call 50; refine ci.mono ?_; clear ci; rintro e w1 ⟨rfl, rfl⟩))
  go_ret2
  exact ⟨rfl, rfl⟩

def SpwRel (t : Tr) (j : Nat) (w : World) (p i : Value) (wr : World) : Prop := ∃ k : Nat, k ≤ j ∧ i = .int .i64 ((k : Int) + 1) ∧ p = .string (tb (powN t k)) ∧ w = wr

set_option maxHeartbeats 1000000 in
theorem spow_yes (t : Tr) (ht : t.txt.length ≤ 60) (j : Nat) (hj : j ≤ 8) (w : World) :
    Calls Try.prog 27 #[.string (tb t), .int .i64 ((j : Int) + 1)] w fun e w' => e = .returned (txV (shT (powN t j))) ∧ w = w' := by
  have cf := sfrm_v (tb t) (isF_t (fOf_txt ht)) w
  have ci := in_v ((j : Int) + 1) 1 9 (inB_t (by omega)) w
  have st := tb_size t
  have m : maxLen = 9223372036854775807 := rfl
  go_enter Try.func27, Try.ntmps27
  go_wp2_with (first | (go_at_call 40; refine cf.mono ?_; clear cf; rintro e w1 ⟨rfl, rfl⟩) | (go_at_call 50; refine ci.mono ?_; clear ci; rintro e w1 ⟨rfl, rfl⟩))
  go_loopw [6, 7] (fun p i wr => SpwRel t j w p i wr) (fun _ i _ => j + 1 - (intOf i).toNat)
  case atStart => exact ⟨0, by omega, rfl, rfl, rfl⟩
  case round =>
    obtain ⟨k, hk, rfl, rfl, rfl⟩ := hrel
    have sk := powN_size ht (show k ≤ 8 by omega)
    rw [← tb_size] at sk
    by_cases hlt : k < j
    · have e2 := Lib.hid (tb_bin .times t (powN t k))
      generalize tb (powN t k) = P at *
      go_wp2
      go_roundw
      case rel => exact ⟨k + 1, by omega, by go_num, by rw [show powN t (k + 1) = .bin .times t (powN t k) from rfl, ← e2.out] <;> rfl, rfl⟩
      case measure => simp [intOf]; omega
    · obtain rfl : k = j := by omega
      by_cases hl : (powN t k).txt.length ≤ 60
      · have e3 : Hid (shT (powN t k) = some (powN t k)) := shT_t hl
        have cs := fun w => sfrm_v (b := true) (tb (powN t k)) (by rw [isF_tb]; exact decide_eq_true hl) w
        clear hl sk
        go_wp2_with (go_at_call 40; refine (cs _).mono ?_; rintro e w2 ⟨rfl, rfl⟩)
        go_ret2
        exact ⟨by rw [e3.out]; rfl, rfl⟩
      · have e3 : Hid (shT (powN t k) = none) := shT_f hl
        have cs := fun w => sfrm_v (b := false) (tb (powN t k)) (by rw [isF_tb]; exact decide_eq_false hl) w
        clear hl sk
        go_wp2_with (go_at_call 40; refine (cs _).mono ?_; rintro e w2 ⟨rfl, rfl⟩)
        go_ret2
        exact ⟨by rw [e3.out]; rfl, rfl⟩

theorem spow_any (s : ByteArray) (k : Int) (w : World) :
    Calls Try.prog 27 #[.string s, .int .i64 k] w fun e w' => e = .returned (txV (powI (bl s) k)) ∧ w = w' := by
  cases ho : fOf (bl s) with
  | none => rw [powI_n ho]; exact spow_no1 s k w (isF_f ho)
  | some t =>
    cases hk : inB k 1 9
    · rw [powI_o hk]; exact spow_no2 s k w (isF_t ho) hk
    · have hb := inB_of hk
      obtain ⟨j, rfl⟩ : ∃ j : Nat, k = (j : Int) + 1 := ⟨(k - 1).toNat, by omega⟩
      have h := spow_yes t (fOf_some ho).2 j (by omega) w
      rw [tb_of ho]
      by_cases hl : (powN t j).txt.length ≤ 60
      · rw [shT_t hl] at h
        rw [← tb_of ho, powI_t ho hk hl, tb_of ho]
        exact h
      · rw [shT_f hl] at h
        rw [← tb_of ho, powI_l ho hl, tb_of ho]
        exact h

theorem sded_no1 (n : Int) (s t : ByteArray) (w : World) (hs : t.size ≤ 1048576) (hp : powI (bl s) n = none) :
    Calls Try.prog 33 #[.int .i64 n, .string s, .string t] w fun e w' => e = .returned (.tuple #[.string ⟨#[]⟩, .bool false]) ∧ w = w' := by
  have cp : ∀ w, Calls Try.prog 27 #[.string s, .int .i64 n] w fun e w' => e = .returned (.tuple #[.string ⟨#[]⟩, .bool false]) ∧ w = w' := fun w => by
    have := spow_any s n w
    rw [hp] at this
    exact this
  have m : maxLen = 9223372036854775807 := rfl
  clear hp
  go_enter Try.func33, Try.ntmps33
  go_wp2_with (go_at_call 27; refine (cp _).mono ?_; clear cp; rintro e w1 ⟨rfl, rfl⟩)
  go_ret2
  exact ⟨rfl, rfl⟩
theorem sded_no2 (n : Int) (s t : ByteArray) (w : World) (hs : t.size ≤ 1048576) (hi : inB n 1 6 = false) {p : Tr} (hp : powI (bl s) n = some p) :
    Calls Try.prog 33 #[.int .i64 n, .string s, .string t] w fun e w' => e = .returned (.tuple #[.string ⟨#[]⟩, .bool false]) ∧ w = w' := by
  have cp : ∀ w, Calls Try.prog 27 #[.string s, .int .i64 n] w fun e w' => e = .returned (.tuple #[.string (tb p), .bool true]) ∧ w = w' := fun w => by
    have := spow_any s n w
    rw [hp] at this
    exact this
  have hpl : (tb p).size ≤ 60 := by
    obtain ⟨_, _, _, _, _, _, h⟩ := powI_of hp
    rw [tb_size]; exact h
  have ci := fun w => in_v n 1 6 hi w
  have m : maxLen = 9223372036854775807 := rfl
  clear hp hi
  generalize tb p = P at *
  go_enter Try.func33, Try.ntmps33
  go_wp2_with (first | (go_at_call 27; refine (cp _).mono ?_; clear cp; rintro e w1 ⟨rfl, rfl⟩) | (go_at_call 50; refine (ci _).mono ?_; clear ci; rintro e w1 ⟨rfl, rfl⟩))
  go_ret2
  exact ⟨rfl, rfl⟩
theorem sded_yes (n : Int) (s t : ByteArray) (w : World) (hs : t.size ≤ 1048576) (hi : inB n 1 6 = true) {p : Tr} (hp : powI (bl s) n = some p) {b : Bool} {V : Value}
    (hb : isF (bl ((⟨#[40]⟩ : ByteArray) ++ tb p ++ ⟨#[62]⟩ ++ t ++ ⟨#[41]⟩)) = b) (hV : V = if b = true then .tuple #[.string ((⟨#[40]⟩ : ByteArray) ++ tb p ++ ⟨#[62]⟩ ++ t ++ ⟨#[41]⟩), .bool true] else .tuple #[.string ⟨#[]⟩, .bool false]) :
    Calls Try.prog 33 #[.int .i64 n, .string s, .string t] w fun e w' => e = .returned V ∧ w = w' := by
  have cp : ∀ w, Calls Try.prog 27 #[.string s, .int .i64 n] w fun e w' => e = .returned (.tuple #[.string (tb p), .bool true]) ∧ w = w' := fun w => by
    have := spow_any s n w
    rw [hp] at this
    exact this
  have hpl : (tb p).size ≤ 60 := by
    obtain ⟨_, _, _, _, _, _, h⟩ := powI_of hp
    rw [tb_size]; exact h
  have ci := fun w => in_v n 1 6 hi w
  have cf := fun w => sfrm_v _ hb w
  have m : maxLen = 9223372036854775807 := rfl
  clear hp hi hb
  generalize tb p = P at *
  cases b
  · have e := Lib.hid hV
    clear hV
    go_enter Try.func33, Try.ntmps33
    go_wp2_with (first | (go_at_call 27; refine (cp _).mono ?_; clear cp; rintro e w1 ⟨rfl, rfl⟩) | (go_at_call 50; refine (ci _).mono ?_; clear ci; rintro e w1 ⟨rfl, rfl⟩) | (go_at_call 40; refine (cf _).mono ?_; clear cf; rintro e w1 ⟨rfl, rfl⟩))
    go_ret2
    exact ⟨by rw [e.out]; rfl, rfl⟩
  · have e := Lib.hid hV
    clear hV
    go_enter Try.func33, Try.ntmps33
    go_wp2_with (first | (go_at_call 27; refine (cp _).mono ?_; clear cp; rintro e w1 ⟨rfl, rfl⟩) | (go_at_call 50; refine (ci _).mono ?_; clear ci; rintro e w1 ⟨rfl, rfl⟩) | (go_at_call 40; refine (cf _).mono ?_; clear cf; rintro e w1 ⟨rfl, rfl⟩))
    go_ret2
    exact ⟨by rw [e.out]; rfl, rfl⟩

theorem bl_folT (p : Tr) (t : ByteArray) : bl ((⟨#[40]⟩ : ByteArray) ++ tb p ++ ⟨#[62]⟩ ++ t ++ ⟨#[41]⟩) = 40 :: (p.txt ++ 62 :: (bl t ++ [41])) := by
  rw [bl_app, bl_app, bl_app, bl_app, bl_tb]
  show [40] ++ p.txt ++ [62] ++ bl t ++ [41] = _
  simp

theorem sded_any (n : Int) (s t : ByteArray) (hs : t.size ≤ 1048576) (w : World) :
    Calls Try.prog 33 #[.int .i64 n, .string s, .string t] w fun e w' => e = .returned (txV (dedI n (bl s) (bl t))) ∧ w = w' := by
  cases hp : powI (bl s) n with
  | none => rw [dedI_p hp]; exact sded_no1 n s t w hs hp
  | some p =>
    cases hi : inB n 1 6
    · rw [dedI_o hi]; exact sded_no2 n s t w hs hi hp
    · have hpl : p.txt.length ≤ 60 := by
        obtain ⟨_, _, _, _, _, _, h⟩ := powI_of hp
        exact h
      have hb := isF_fol (p := p) (m := bl t) hpl
      rw [← bl_folT] at hb
      cases ht : fOf (bl t) with
      | none =>
        rw [ht] at hb
        rw [dedI_n ht]
        exact sded_yes n s t w hs hi hp hb rfl
      | some u =>
        rw [ht] at hb
        by_cases hl : (Tr.bin .fol p u).txt.length ≤ 60
        · rw [dedI_t hp ht hi hl]
          refine sded_yes n s t w hs hi hp (hb.trans (decide_eq_true hl)) ?_
          rw [if_pos rfl, tb_of ht]
          show Value.tuple #[.string (tb (.bin .fol p u)), .bool true] = _
          rw [← tb_bin]
          rfl
        · rw [dedI_l hp ht hl]
          exact sded_yes n s t w hs hi hp (hb.trans (decide_eq_false hl)) rfl

end Go.Proofs.Ytdofeahbgodopaa
